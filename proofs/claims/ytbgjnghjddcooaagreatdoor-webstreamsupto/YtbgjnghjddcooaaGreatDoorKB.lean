import Derived.Test.YtbgjnghjddcooaaGreatDoorK2
import Derived.Test.YtbgjnghjddcooaaGreatDoorK5
import Derived.Test.YtbgjnghjddcooaaGreatDoorSq
namespace Go.Proofs.YtbgjnghjddcooaaGreatDoor
open Go.RowKit Go.Shelf TextNum
/-- why a response can't be printed -/
def ckr (st mi : Int) (fs : List FD) (nb : Nat) : Option Nat :=
  if 16384 < szs fs then some 1 else if mnr mi = false then some 4 else if sto st = false then some 11 else
    match ckf fs with
    | some k => some k
    | none => if 1048576 < nb then some 7 else if 0 < nb ∧ bdl st = true then some 7 else none
def raF (st : Int) (fs : List FD) (n : Nat) : List FD := if bdl st = true then pfs fs else pfs fs ++ [lnf n]
def raS (st mi : Int) : List UInt8 := vtx mi ++ [32] ++ Go.Lib.itoa st ++ [32] ++ rsn st
def raQ (st mi : Int) (fs : List FD) (bd : List UInt8) : Er (List UInt8) := match ckr st mi (raF st fs bd.length) bd.length with
  | some k => .error k
  | none => .ok (prt (raS st mi) (raF st fs bd.length) bd)
theorem st_facts : ∀ k : Nat, k < 600 → 100 ≤ k → rsO (Go.Lib.itoa (k : Int)) = true ∧ rsN (Go.Lib.itoa (k : Int)) = k ∧ vlu (rsn (k : Int)) = true ∧ (32 : UInt8) ∉ Go.Lib.itoa (k : Int) ∧ (10 : UInt8) ∉ Go.Lib.itoa (k : Int) ∧ (10 : UInt8) ∉ rsn (k : Int) ∧ (rsn (k : Int)).length ≤ 64 ∧ (Go.Lib.itoa (k : Int)).length = 3 := by decide +kernel
theorem sto_nat {st : Int} (h : sto st = true) : ∃ k : Nat, st = (k : Int) ∧ k < 600 ∧ 100 ≤ k := by
  unfold sto at h
  rw [Bool.and_eq_true, decide_eq_true_eq, decide_eq_true_eq] at h
  exact ⟨st.toNat, by omega, by omega, by omega⟩
theorem vtx_32 {mi : Int} (h : mnr mi = true) : (32 : UInt8) ∉ vtx mi ∧ (vtx mi).length = 8 := by
  rcases mnr_or h with rfl | rfl
  · rw [show vtx 0 = [72, 84, 84, 80, 47, 49, 46, 48] by decide +kernel]
    exact ⟨by decide +kernel, rfl⟩
  · rw [show vtx 1 = [72, 84, 84, 80, 47, 49, 46, 49] by decide +kernel]
    exact ⟨by decide +kernel, rfl⟩
theorem rsl_raS {k : Nat} {mi : Int} (hs : sto (k : Int) = true) (hi : mnr mi = true) : rsl (raS (k : Int) mi) = .ok (k, mi) := by
  obtain ⟨j, hj, hj1, hj2⟩ := sto_nat hs
  have hjk : k = j := by omega
  subst hjk
  obtain ⟨f1, f2, f3, f4, f5, f6, f7, f8⟩ := st_facts k hj1 hj2
  obtain ⟨h1, h2, _⟩ := vtx_facts hi
  have e : raS (k : Int) mi = vtx mi ++ 32 :: (Go.Lib.itoa (k : Int) ++ 32 :: rsn (k : Int)) := by simp [raS]
  have k1 := cut_at (vtx mi) (Go.Lib.itoa (k : Int) ++ 32 :: rsn (k : Int)) 32 (vtx_32 hi).1
  have k2 := cut_at (Go.Lib.itoa (k : Int)) (rsn (k : Int)) 32 f4
  have e1 : c1 32 (raS (k : Int) mi) = vtx mi := by unfold c1; rw [e, k1]
  have e2 : c2 32 (raS (k : Int) mi) = Go.Lib.itoa (k : Int) ++ 32 :: rsn (k : Int) := by unfold c2; rw [e, k1]
  have e3 : c1 32 (Go.Lib.itoa (k : Int) ++ 32 :: rsn (k : Int)) = Go.Lib.itoa (k : Int) := by unfold c1; rw [k2]
  have e4 : c2 32 (Go.Lib.itoa (k : Int) ++ 32 :: rsn (k : Int)) = rsn (k : Int) := by unfold c2; rw [k2]
  unfold rsl
  rw [e1, e2, e3, e4, f1, h1, f3, h2, f2, if_neg (by simp)]
  dsimp only
  rw [if_neg (by rw [hs]; simp)]
theorem raS_no {st mi : Int} (hs : sto st = true) (hi : mnr mi = true) : (10 : UInt8) ∉ raS st mi ∧ (raS st mi).length ≤ 100 := by
  obtain ⟨k, rfl, hj1, hj2⟩ := sto_nat hs
  obtain ⟨f1, f2, f3, f4, f5, f6, f7, f8⟩ := st_facts k hj1 hj2
  obtain ⟨_, _, h3⟩ := vtx_facts hi
  obtain ⟨_, h4⟩ := vtx_32 hi
  refine ⟨?_, ?_⟩
  · unfold raS
    simp only [List.mem_append, List.mem_cons, List.not_mem_nil, or_false]
    rintro ((((h | h) | h) | h) | h)
    · exact h3 h
    · revert h; decide
    · exact f5 h
    · revert h; decide
    · exact f6 h
  · unfold raS
    simp only [List.length_append, List.length_cons, List.length_nil]
    omega
theorem cHd_prtP {pl : Nat} {st : List UInt8} {F : List FD} {R : List UInt8} (h10 : (10 : UInt8) ∉ st) (hs : st.length ≤ 8000) (hg : ∀ f ∈ F, mbf f = true) (hl : szs F ≤ 16384) : cHd pl (st ++ 13 :: 10 :: (lbs F ++ 13 :: 10 :: R)) = .ok (st, lbs F, st.length + 2 + ((lbs F).length + 2)) := by
  unfold cHd
  rw [cutL_line h10 hs]
  dsimp only
  have hd : (st ++ 13 :: 10 :: (lbs F ++ 13 :: 10 :: R)).drop (st.length + 2) = lbs F ++ 13 :: 10 :: R := by
    rw [← List.drop_drop, List.drop_left' rfl]
    rfl
  rw [hd, mF_lines hg hl]
  dsimp only
  rw [List.take_left' rfl]
theorem ckr_lt {st mi : Int} {fs : List FD} {nb k : Nat} (h : ckr st mi fs nb = some k) : k < 12 := by
  unfold ckr at h
  repeat' split at h
  all_goals first
    | (cases h; done)
    | (injection h with h; subst h; decide)
    | (injection h with h; subst h; exact ckf_lt (by assumption))
theorem ckr_ok {st mi : Int} {fs : List FD} {nb : Nat} (h : ckr st mi fs nb = none) : szs fs ≤ 16384 ∧ mnr mi = true ∧ sto st = true ∧ ckf fs = none ∧ nb ≤ 1048576 ∧ (bdl st = true → nb = 0) := by
  unfold ckr at h
  repeat' split at h
  all_goals first
    | (cases h; done)
    | skip
  rename_i h1 h2 h3 _ h4 h5 h6
  refine ⟨by omega, by simpa using h2, by simpa using h3, h4, by omega, fun hb => ?_⟩
  rcases Nat.eq_zero_or_pos nb with h | h
  · exact h
  · exact absurd ⟨h, hb⟩ h6
theorem rsF_raF {st mi : Int} {fs : List FD} {n : Nat} (h : n ≤ 1048576) : rsF st (raF st fs n) mi = if bdl st = true then .ok (0, 0) else .ok (2, n) := by
  unfold rsF raF
  by_cases h0 : bdl st = true
  · rw [if_pos h0, if_pos h0]
  · rw [if_neg h0, if_neg h0, if_neg h0]
    have hc := pfs_count fs
    have hi : (pfs fs).any isc = false := by
      rw [List.any_eq_false]
      intro f hf
      rw [tls_isc (pfs_tidy hf).2]
      simp
    have hbd : ∀ F : List FD, F.any isc = false → F.any (bdc mi) = false := by
      intro F hF
      rw [List.any_eq_false] at hF ⊢
      intro f hf
      unfold bdc
      have := hF f hf
      simp only [Bool.not_eq_true] at this
      rw [this]
      simp
    unfold frm
    obtain ⟨k1, k2⟩ := lnf_tls n
    have ha : (pfs fs ++ [lnf n]).any isc = false := by rw [List.any_append, hi]; simp [k2]
    have hcn : (pfs fs ++ [lnf n]).countP tls = 1 := by rw [List.countP_append, hc]; simp [k1]
    rw [hbd _ ha, ha, hcn, if_neg (by simp), if_neg (by omega), if_neg (by omega), if_neg (by simp), lst_yes k1]
    exact frl_itoa h
theorem rsP_prt {st mi : Int} {fs : List FD} {bd : List UInt8} (h : ckr st mi (raF st fs bd.length) bd.length = none) (tl : List UInt8) :
    rsP (prt (raS st mi) (raF st fs bd.length) bd ++ tl) = .ok ((⟨st.toNat, mi, raF st fs bd.length⟩, cls (mi == 0) (raF st fs bd.length), bd), (prt (raS st mi) (raF st fs bd.length) bd).length) := by
  obtain ⟨h2, h3, h4, h5, h6, h7⟩ := ckr_ok h
  obtain ⟨f1, f2⟩ := ckf_none h5
  have hg : ∀ f ∈ raF st fs bd.length, gud f := by
    intro f hf
    refine ⟨f2 f hf, ?_⟩
    unfold raF at hf
    split at hf
    · exact (pfs_tidy hf).1
    · rcases List.mem_append.1 hf with hf | hf
      · exact (pfs_tidy hf).1
      · rw [List.mem_singleton.1 hf]
        exact (lnf_gud _).2
  have hfr := rsF_raF (st := st) (fs := fs) (mi := mi) h6
  generalize raF st fs bd.length = F at *
  obtain ⟨hno, hsl⟩ := raS_no h4 h3
  obtain ⟨k, rfl, _, _⟩ := sto_nat h4
  have hrl := rsl_raS h4 h3
  have e : prt (raS (k : Int) mi) F bd ++ tl = raS (k : Int) mi ++ 13 :: 10 :: (lbs F ++ 13 :: 10 :: (bd ++ tl)) := by simp [prt]
  have el : (prt (raS (k : Int) mi) F bd).length = (raS (k : Int) mi).length + 2 + ((lbs F).length + 2) + bd.length := by
    simp only [prt, List.length_append, List.length_cons, List.length_nil]
    omega
  rw [el]
  generalize raS (k : Int) mi = s at *
  have hd : (s ++ 13 :: 10 :: (lbs F ++ 13 :: 10 :: (bd ++ tl))).drop (s.length + 2 + ((lbs F).length + 2)) = bd ++ tl := by
    have e2 : s ++ 13 :: 10 :: (lbs F ++ 13 :: 10 :: (bd ++ tl)) = (s ++ 13 :: 10 :: (lbs F ++ [13, 10])) ++ (bd ++ tl) := by simp
    rw [e2]
    refine List.drop_left' ?_
    simp only [List.length_append, List.length_cons, List.length_nil]
    omega
  unfold rsP msg
  rw [e, cHd_prtP hno (by omega) f2 h2]
  dsimp only
  have hrg : rsg s (lbs F) = .ok (⟨k, mi, F⟩, if bdl (k : Int) = true then 0 else 2, bd.length) := by
    unfold rsg
    rw [hrl]
    dsimp only
    rw [rdf_lbs hg f1]
    dsimp only
    rw [hfr]
    by_cases hb : bdl (k : Int) = true
    · rw [if_pos hb, if_pos hb, h7 hb]
    · rw [if_neg hb, if_neg hb]
  rw [hrg]
  dsimp only
  rw [hd]
  have hfc : fcu (if bdl (k : Int) = true then 0 else 2) bd.length (bd ++ tl) = .ok (bd, bd.length) := by
    split
    · rename_i hb
      have h0 : bd = [] := List.eq_nil_of_length_eq_zero (h7 hb)
      subst h0
      unfold fcu
      rw [if_neg (by decide), if_neg (by decide), if_neg (by decide)]
      rfl
    · unfold fcu
      rw [if_neg (by decide), if_neg (by decide), if_pos rfl, if_neg (by simp), List.take_left' rfl]
  rw [hfc]
  dsimp only
  have hw : ((if bdl (k : Int) = true then (0 : Int) else 2) == 1) = false := by split <;> rfl
  rw [hw, Bool.false_or, Int.toNat_natCast]
theorem rsP_pre {l : List UInt8} {x : Rs} {cl : Bool} {b : List UInt8} {way : Int} {n : Nat} (h : rsP l = .ok ((x, cl, b), l.length)) (hF : rsF (x.st : Int) x.fs x.mi = .ok (way, n)) (hw : way ≠ 1) {i : Nat} (hi : i < l.length) : rsP (l.take i) = .error 2 := by
  have e := List.take_append_drop i l
  have hl : (l.take i).length = i := by rw [List.length_take]; omega
  cases hc : rsP (l.take i) with
  | error k =>
    by_cases hk : k = 2
    · rw [hk]
    · have h1 : rsP (l.take i ++ l.drop i) = .error k := msg_er hc hk
      rw [e, h] at h1
      cases h1
  | ok q =>
    obtain ⟨y, m⟩ := q
    obtain ⟨st, fl, k, x', way', len, b', h1, h2, h3, h4, h5, h6, h7, h8, h9⟩ := msg_ok hc
    have h10 := h9 (l.drop i)
    rw [e] at h10
    obtain ⟨b2, hb2⟩ := h10.2 _ _ h
    have hx : x = x' := by injection hb2
    subst hx
    have h11 := (rsg_ok h2).2.2
    rw [hF] at h11
    have hww : way = way' := by injection h11 with h11; injection h11
    subst hww
    have h12 : rsP l = .ok (y, m) := h10.1 hw
    rw [h] at h12
    injection h12 with h12
    injection h12 with _ h12
    omega
theorem raQ_er {st mi : Int} {fs : List FD} {bd : List UInt8} {k : Nat} (h : raQ st mi fs bd = .error k) : (nums k != 0) = true := by
  have hk : k < 12 := by
    unfold raQ at h
    cases hc : ckr st mi (raF st fs bd.length) bd.length with
    | some j => rw [hc] at h; injection h with h; rw [← h]; exact ckr_lt hc
    | none => rw [hc] at h; cases h
  have : ∀ k, k < 12 → (nums k != 0) = true := by decide +kernel
  exact this k hk
theorem raQ_ok {st mi : Int} {fs : List FD} {bd l : List UInt8} (h : raQ st mi fs bd = .ok l) : ckr st mi (raF st fs bd.length) bd.length = none ∧ l = prt (raS st mi) (raF st fs bd.length) bd := by
  unfold raQ at h
  cases hc : ckr st mi (raF st fs bd.length) bd.length with
  | some j => rw [hc] at h; cases h
  | none => rw [hc] at h; injection h with h; exact ⟨rfl, h.symm⟩
theorem szs_raF (st : Int) (fs : List FD) (n : Nat) (h : n ≤ 1099511627776) : szs (raF st fs n) ≤ szs fs + 128 := by
  have h1 := szs_pfs fs
  unfold raF
  split
  · omega
  · rw [szs_snoc]
    have h2 : szf (lnf n) ≤ 128 := by
      have h3 := itoa_len (n : Int) (by omega) (by omega)
      have h4 : (⟨(Go.Lib.itoa (n : Int)).toArray⟩ : ByteArray).size = (Go.Lib.itoa (n : Int)).length := by simp [ByteArray.size]
      have h5 : ctlN.size = 14 := rfl
      unfold szf lnf
      dsimp only
      omega
    omega
end Go.Proofs.YtbgjnghjddcooaaGreatDoor
namespace Go.Proofs.YtbgjnghjddcooaaGreatDoor
open Go.RowKit Go.Shelf TextNum
theorem rqP_pre {l : List UInt8} {x : Rq} {b : List UInt8} (h : rqP l = .ok ((x, b), l.length)) {i : Nat} (hi : i < l.length) : rqP (l.take i) = .error 2 := by
  have e := List.take_append_drop i l
  have hl : (l.take i).length = i := by rw [List.length_take]; omega
  cases hc : rqP (l.take i) with
  | error k =>
    by_cases hk : k = 2
    · rw [hk]
    · have h1 : rqP (l.take i ++ l.drop i) = .error k := msg_er hc hk
      rw [e, h] at h1
      cases h1
  | ok q =>
    obtain ⟨⟨y, c⟩, n⟩ := q
    obtain ⟨h1, h2⟩ := rqP_ok hc (l.drop i)
    rw [e, h] at h1
    injection h1 with h1
    injection h1 with _ h1
    omega
theorem parse_short (ad : Nat → Addr) {a : Option Addr} {n c : Nat} {ds : List UInt8} (hn40 : n ≤ 1099511627776) (w : World) (hS : Sb w (.slice a n c) ds) (hW : GW w ad) (h : rqP ds = .error 2) :
    Calls Tryz.prog 11 #[.slice a n c] w fun e w' => e = .returned (.tuple #[.agg #[.string ⟨#[]⟩, .string ⟨#[]⟩, .int .i64 0, .slice none 0 0, .slice none 0 0, .bool false], .int .i64 0, .int .i64 140]) ∧ Up w w' := by
  refine (ParseRequest_walk ad hn40 w hS hW).mono ?_
  rintro e w' ⟨hR, hU⟩
  rw [h] at hR
  exact ⟨hR, hU⟩
set_option maxRecDepth 100000 in
set_option maxHeartbeats 2000000 in
theorem short_walk (ad : Nat → Addr) {a : Option Addr} {n c : Nat} {ds : List UInt8} (at' : Int) (hn40 : n ≤ 1099511627776) (hn : 0 < n) (w : World) (hS : Sb w (.slice a n c) ds) (hW : GW w ad) (hP : ∀ i, i < n → rqP (ds.take i) = .error 2) :
    Calls Tryz.prog 24 #[.slice a n c, .int .i64 at'] w fun e w' => e = .returned (.bool true) ∧ Up w w' := by
  obtain ⟨hnd, hnc, hcm⟩ := hS.len
  unfold maxLen at hcm
  subst hnd
  have HSb := Hid.of hS
  have HW := Hid.of hW
  have HPs := Hid.of (fun i (hi : i < ds.length) (w2 : World) (hU : Up w w2) => parse_short ad (a := a) (n := i) (c := c) (by omega) w2 ((hS.take i (by omega)).up hU) (hW.up hU) (hP i hi))
  obtain ⟨n, hnn⟩ : ∃ n, ds.length = n := ⟨_, rfl⟩
  rw [hnn] at HPs hn40 hn hnc ⊢
  clear hS hW hP hnn HSb
  go_enter Tryz.func24, Tryz.ntmps24
  go_wp2
  have hst : (n : Int) / 200 + 1 = ((n / 200 + 1 : Nat) : Int) := by omega
  have hs1 : 1 ≤ n / 200 + 1 := by omega
  have hs2 : n / 200 + 1 ≤ n + 1 := by omega
  rw [hst]
  clear hst
  generalize n / 200 + 1 = st at *
  go_loopw [6] (fun v6 wr => ∃ k : Nat, v6 = .int .i64 (k : Int) ∧ k ≤ 3 * n + 3 ∧ Hid (Up w wr)) (fun v6 _ => n - (intOf v6).toNat)
  case atStart => exact ⟨0, rfl, Nat.zero_le _, Hid.of (Up.refl _)⟩
  case round =>
    obtain ⟨k, rfl, hk, hU⟩ := hrel
    have HU := Hid.of hU.out
    clear hU
    by_cases hkn : k < n
    · have hkz : (k : Int) < (n : Int) := by omega
      have HC := Hid.of (HPs.out k hkn wr HU.out)
      go_wp2_with (with_reducible show wpList _ _ _ ({ dst := _, op := Op.slice 22 _ _ _ _, type := _, pos := _, after := _, guard := _ } :: _) _ _; refine Shut.out ?_)
      show wpList _ _ _ _ _ _
      refine wpList_val7 (.slice a k c) rfl (exec_subhi (by omega) rfl rfl rfl) ?_
      simp only [Act.put, List.setIfInBounds_toArray, List.set_cons_zero, List.set_cons_succ]
      go_wp2_with fail
      refine HC.out.mono ?_
      rintro e w2 ⟨rfl, h9⟩
      have HU2 := Hid.of ((HU.out.trans h9).alloc (.cells #[.string ⟨#[]⟩, .string ⟨#[]⟩, .int .i64 0, .slice none 0 0, .slice none 0 0, .bool false] 27))
      clear h9
      dsimp only
      go_wp2
      go_roundw
      all_goals first
        | exact ⟨k + st, by go_num, by omega, Hid.of HU2.out⟩
        | (simp [intOf]; omega)
    · have hkz : ¬ (k : Int) < (n : Int) := by omega
      obtain ⟨j, hj, hjn⟩ : ∃ j : Nat, (wrap64 (at'.tmod (n : Int) + (n : Int))).tmod (n : Int) = (j : Int) ∧ j < n := by
        have hn0 : (0 : Int) < (n : Int) := by omega
        have t1 := Int.tmod_lt_of_pos at' hn0
        have t2 := Int.lt_tmod_of_pos at' hn0
        have e : wrap64 (at'.tmod (n : Int) + (n : Int)) = at'.tmod (n : Int) + (n : Int) := by
          have h3 := IntWalk.i64_left (at'.tmod (n : Int) + (n : Int))
          rw [← h3]
          exact IntWalk.i64_in _ (by omega)
        rw [e]
        have t3 := Int.tmod_lt_of_pos (at'.tmod (n : Int) + (n : Int)) hn0
        have t4 : 0 ≤ (at'.tmod (n : Int) + (n : Int)).tmod (n : Int) := Int.tmod_nonneg _ (by omega)
        exact ⟨((at'.tmod (n : Int) + (n : Int)).tmod (n : Int)).toNat, by omega, by omega⟩
      have HC := Hid.of (HPs.out j hjn wr HU.out)
      have HJ := Hid.of hj
      clear hj
      go_wp2_with (with_reducible show wpList _ _ _ ({ dst := _, op := Op.slice 22 _ _ _ _, type := _, pos := _, after := _, guard := _ } :: _) _ _; refine Shut.out ?_)
      show wpList _ _ _ _ _ _
      rw [HJ.out]
      refine wpList_val7 (.slice a j c) rfl (exec_subhi (by omega) rfl rfl rfl) ?_
      simp only [Act.put, List.setIfInBounds_toArray, List.set_cons_zero, List.set_cons_succ]
      go_wp2_with fail
      refine HC.out.mono ?_
      rintro e w2 ⟨rfl, h9⟩
      have HU2 := Hid.of ((HU.out.trans h9).alloc (.cells #[.string ⟨#[]⟩, .string ⟨#[]⟩, .int .i64 0, .slice none 0 0, .slice none 0 0, .bool false] 27))
      clear h9
      dsimp only
      go_wp2
      go_ret
      exact ⟨rfl, HU2.out⟩
end Go.Proofs.YtbgjnghjddcooaaGreatDoor
namespace Go.Proofs.YtbgjnghjddcooaaGreatDoor
open Go.RowKit Go.Shelf TextNum
theorem trm_front {b : UInt8} {l : List UInt8} (h : blk b = true) : trm (b :: l) = trm l := by
  rw [trm_def, trm_def, List.reverse_cons, List.dropWhile_append]
  split
  · rename_i he
    have e : l.reverse.dropWhile blk = [] := by simpa using he
    rw [e, List.dropWhile_cons, h]
    rfl
  · rw [List.reverse_append]
    show (b :: (l.reverse.dropWhile blk).reverse).dropWhile blk = _
    rw [List.dropWhile_cons, h]
    rfl
theorem trm_back {b : UInt8} {l : List UInt8} (h : blk b = true) : trm (l ++ [b]) = trm l := by
  rw [trm_def, trm_def, List.reverse_append]
  show ((b :: l.reverse).dropWhile blk).reverse.dropWhile blk = _
  rw [List.dropWhile_cons, h]
  rfl
theorem blk_iff (b : UInt8) : blk b = (b == 32 || b == 9) := by
  unfold blk bks
  simp [List.contains, List.elem]
  cases (b == 32) <;> cases (b == 9) <;> rfl
theorem blk_yes32 {x : UInt8} (h : ((x.toNat : Int) == 32) = true) : blk x = true := by
  have h1 := eq_of_beq h
  have h2 : x = 32 := UInt8.toNat_inj.1 (by show x.toNat = 32; omega)
  rw [h2]
  decide
theorem blk_yes9 {x : UInt8} (h : ((x.toNat : Int) == 9) = true) : blk x = true := by
  have h1 := eq_of_beq h
  have h2 : x = 9 := UInt8.toNat_inj.1 (by show x.toNat = 9; omega)
  rw [h2]
  decide
theorem blk_no {x : UInt8} (h : ((x.toNat : Int) == 32) = false) (h9 : ((x.toNat : Int) == 9) = false) : blk x = false := by
  rw [blk_iff]
  rw [beq_eq_false_iff_ne] at h h9
  have a : (x == 32) = false := by rw [beq_eq_false_iff_ne]; rintro rfl; exact h rfl
  have b : (x == 9) = false := by rw [beq_eq_false_iff_ne]; rintro rfl; exact h9 rfl
  rw [a, b]
  rfl
theorem extr_drop (s : ByteArray) (k : Nat) : (s.extract k s.size).data.toList = s.data.toList.drop k := by
  have hz : s.size = s.data.toList.length := Go.Lib.size_eq s
  rw [ByteArray.data_extract, Array.toList_extract, List.extract_eq_drop_take', List.take_of_length_le (by rw [← hz]; exact Nat.le_refl _)]
theorem extr_take (s : ByteArray) (k : Nat) : (s.extract 0 k).data.toList = s.data.toList.take k := by
  rw [ByteArray.data_extract, Array.toList_extract, List.extract_eq_drop_take', List.drop_zero]
set_option maxRecDepth 100000 in
set_option maxHeartbeats 2000000 in
theorem trimmed_walk (s : ByteArray) (hs : s.size ≤ 1099511627776) (w : World) : Calls Tryz.prog 41 #[.string s] w fun e w' => e = .returned (vs (trm s.data.toList)) ∧ w' = w := by
  obtain ⟨r, hr⟩ : ∃ r, trm s.data.toList = r := ⟨_, rfl⟩
  have HR := Hid.of hr
  rw [hr]
  clear hr
  go_enter Tryz.func41, Tryz.ntmps41
  go_wp2
  go_loopw [0] (fun v0 wr => ∃ s' : ByteArray, v0 = .string s' ∧ s'.size ≤ 1099511627776 ∧ Hid (wr = w ∧ trm s'.data.toList = r)) (fun v0 _ => szOf v0)
  case atStart => exact ⟨s, rfl, hs, Hid.of ⟨rfl, HR.out⟩⟩
  case round =>
    obtain ⟨s', rfl, hs', hQ⟩ := hrel
    have HQ := Hid.of hQ.out
    clear hQ HR
    have HZ := Hid.of (Go.Lib.size_eq s')
    by_cases h0 : 0 < s'.size
    · have h0z : (0 : Int) < (s'.size : Int) := by omega
      have hg := sget' s' 0 h0
      have HE0 : s'.data.toList = s'.data.toList[0]'(by have := HZ.out; omega) :: s'.data.toList.drop 1 := by
        rw [List.getElem_cons_drop, List.drop_zero]
      generalize s'.data.toList[0]'(by have := HZ.out; omega) = x at hg HE0
      have HE := Hid.of HE0
      clear HE0
      cases h32 : ((x.toNat : Int) == 32) with
      | true =>
        have HBk := Hid.of (blk_yes32 h32)
        have HD := Hid.of (show trm (s'.extract 1 s'.size).data.toList = r by
          rw [extr_drop]
          have h1 := HQ.out.2
          rw [HE.out, trm_front HBk.out] at h1
          exact h1)
        have HSz := Hid.of (show (s'.extract 1 s'.size).size = s'.size - 1 by rw [ByteArray.size_extract]; omega)
        go_wp2
        go_roundw
        all_goals first
          | exact ⟨_, rfl, by rw [HSz.out]; omega, Hid.of ⟨HQ.out.1, HD.out⟩⟩
          | (show (s'.extract 1 s'.size).size < s'.size; rw [HSz.out]; omega)
          | (simp [szOf]; omega)
      | false =>
        cases h9 : ((x.toNat : Int) == 9) with
        | true =>
          have HBk := Hid.of (blk_yes9 h9)
          have HD := Hid.of (show trm (s'.extract 1 s'.size).data.toList = r by
            rw [extr_drop]
            have h1 := HQ.out.2
            rw [HE.out, trm_front HBk.out] at h1
            exact h1)
          have HSz := Hid.of (show (s'.extract 1 s'.size).size = s'.size - 1 by rw [ByteArray.size_extract]; omega)
          go_wp2
          go_roundw
          all_goals first
            | exact ⟨_, rfl, by rw [HSz.out]; omega, Hid.of ⟨HQ.out.1, HD.out⟩⟩
            | (show (s'.extract 1 s'.size).size < s'.size; rw [HSz.out]; omega)
            | (simp [szOf]; omega)
        | false =>
          have HD0 := Hid.of (show ∀ y, s'.data.toList.head? = some y → blk y = false by
            intro y hy
            rw [HE.out] at hy
            injection hy with hy
            rw [← hy]
            exact blk_no h32 h9)
          go_wp2
          go_loopw [0] (fun v0 wr => ∃ s2 : ByteArray, v0 = .string s2 ∧ s2.size ≤ 1099511627776 ∧ Hid (wr = w ∧ trm s2.data.toList = r ∧ ∀ x, s2.data.toList.head? = some x → blk x = false)) (fun v0 _ => szOf v0)
          case atStart => exact ⟨s', rfl, hs', Hid.of ⟨HQ.out.1, HQ.out.2, HD0.out⟩⟩
          case round =>
            obtain ⟨s2, rfl, hs2, hQ2⟩ := hrel
            have HQ2 := Hid.of hQ2.out
            clear hQ2
            by_cases h0 : 0 < s2.size
            · have h0z : (0 : Int) < (s2.size : Int) := by omega
              have hg := sget' s2 (s2.size - 1) (by omega)
              have HZ2 := Hid.of (Go.Lib.size_eq s2)
              have HE0 : s2.data.toList = s2.data.toList.take (s2.size - 1) ++ [s2.data.toList[s2.size - 1]'(by have := HZ2.out; omega)] := by
                rw [← List.take_succ_eq_append_getElem, List.take_of_length_le (by have := HZ2.out; omega)]
              generalize s2.data.toList[s2.size - 1]'(by have := HZ2.out; omega) = x at hg HE0
              have HE := Hid.of HE0
              clear HE0
              have hsub : (s2.size : Int) - 1 = ((s2.size - 1 : Nat) : Int) := by omega
              cases h32 : ((x.toNat : Int) == 32) with
              | true =>
                have HBk := Hid.of (blk_yes32 h32)
                have HD := Hid.of (show trm (s2.extract 0 (s2.size - 1)).data.toList = r by
                  rw [extr_take]
                  have h1 := HQ2.out.2.1
                  rw [HE.out, trm_back HBk.out] at h1
                  exact h1)
                have HH := Hid.of (show ∀ x, (s2.extract 0 (s2.size - 1)).data.toList.head? = some x → blk x = false by
                  intro y hy
                  rw [extr_take] at hy
                  refine HQ2.out.2.2 y ?_
                  rw [HE.out]
                  cases hl : s2.data.toList.take (s2.size - 1) with
                  | nil => rw [hl] at hy; cases hy
                  | cons a b => rw [hl] at hy; exact hy)
                have HSz := Hid.of (show (s2.extract 0 (s2.size - 1)).size = s2.size - 1 by rw [ByteArray.size_extract]; omega)
                go_wp2
                go_roundw
                all_goals first
                  | exact ⟨_, rfl, by rw [HSz.out]; omega, Hid.of ⟨HQ2.out.1, HD.out, HH.out⟩⟩
                  | (show s2.size - 0 = 0; omega)
                  | (show (s2.extract 0 (s2.size - 1)).size < s2.size; rw [HSz.out]; omega)
                  | (simp [szOf]; omega)
              | false =>
                cases h9 : ((x.toNat : Int) == 9) with
                | true =>
                  have HBk := Hid.of (blk_yes9 h9)
                  have HD := Hid.of (show trm (s2.extract 0 (s2.size - 1)).data.toList = r by
                    rw [extr_take]
                    have h1 := HQ2.out.2.1
                    rw [HE.out, trm_back HBk.out] at h1
                    exact h1)
                  have HH := Hid.of (show ∀ x, (s2.extract 0 (s2.size - 1)).data.toList.head? = some x → blk x = false by
                    intro y hy
                    rw [extr_take] at hy
                    refine HQ2.out.2.2 y ?_
                    rw [HE.out]
                    cases hl : s2.data.toList.take (s2.size - 1) with
                    | nil => rw [hl] at hy; cases hy
                    | cons a b => rw [hl] at hy; exact hy)
                  have HSz := Hid.of (show (s2.extract 0 (s2.size - 1)).size = s2.size - 1 by rw [ByteArray.size_extract]; omega)
                  go_wp2
                  go_roundw
                  all_goals first
                    | exact ⟨_, rfl, by rw [HSz.out]; omega, Hid.of ⟨HQ2.out.1, HD.out, HH.out⟩⟩
                    | (show s2.size - 0 = 0; omega)
                    | (show (s2.extract 0 (s2.size - 1)).size < s2.size; rw [HSz.out]; omega)
                    | (simp [szOf]; omega)
                | false =>
                  have HT := Hid.of (show s2.data.toList = r by
                    have h1 := HQ2.out.2.1
                    rw [trm_id ⟨HQ2.out.2.2, fun y hy => ?_⟩] at h1
                    · exact h1
                    · rw [HE.out, List.getLast?_concat] at hy
                      injection hy with hy
                      rw [← hy]
                      exact blk_no h32 h9)
                  go_wp2
                  go_ret
                  rw [← HT.out, vs_data']
                  exact ⟨rfl, HQ2.out.1⟩
            · have h0z : ¬ (0 : Int) < (s2.size : Int) := by omega
              have HT := Hid.of (show s2.data.toList = r by
                have h1 := HQ2.out.2.1
                have h2 : s2.data.toList = [] := List.eq_nil_of_length_eq_zero (by rw [← Go.Lib.size_eq]; omega)
                rw [h2] at h1 ⊢
                exact h1)
              go_wp2
              go_ret
              rw [← HT.out, vs_data']
              exact ⟨rfl, HQ2.out.1⟩
    · have h0z : ¬ (0 : Int) < (s'.size : Int) := by omega
      have HD0 := Hid.of (show ∀ y, s'.data.toList.head? = some y → blk y = false by
        intro y hy
        rw [List.eq_nil_of_length_eq_zero (show s'.data.toList.length = 0 by have := HZ.out; omega)] at hy
        cases hy)
      go_wp2
      go_loopw [0] (fun v0 wr => ∃ s2 : ByteArray, v0 = .string s2 ∧ s2.size ≤ 1099511627776 ∧ Hid (wr = w ∧ trm s2.data.toList = r ∧ ∀ x, s2.data.toList.head? = some x → blk x = false)) (fun v0 _ => szOf v0)
      case atStart => exact ⟨s', rfl, hs', Hid.of ⟨HQ.out.1, HQ.out.2, HD0.out⟩⟩
      case round =>
        obtain ⟨s2, rfl, hs2, hQ2⟩ := hrel
        have HQ2 := Hid.of hQ2.out
        clear hQ2
        by_cases h0 : 0 < s2.size
        · have h0z : (0 : Int) < (s2.size : Int) := by omega
          have hg := sget' s2 (s2.size - 1) (by omega)
          have HZ2 := Hid.of (Go.Lib.size_eq s2)
          have HE0 : s2.data.toList = s2.data.toList.take (s2.size - 1) ++ [s2.data.toList[s2.size - 1]'(by have := HZ2.out; omega)] := by
            rw [← List.take_succ_eq_append_getElem, List.take_of_length_le (by have := HZ2.out; omega)]
          generalize s2.data.toList[s2.size - 1]'(by have := HZ2.out; omega) = x at hg HE0
          have HE := Hid.of HE0
          clear HE0
          have hsub : (s2.size : Int) - 1 = ((s2.size - 1 : Nat) : Int) := by omega
          cases h32 : ((x.toNat : Int) == 32) with
          | true =>
            have HBk := Hid.of (blk_yes32 h32)
            have HD := Hid.of (show trm (s2.extract 0 (s2.size - 1)).data.toList = r by
              rw [extr_take]
              have h1 := HQ2.out.2.1
              rw [HE.out, trm_back HBk.out] at h1
              exact h1)
            have HH := Hid.of (show ∀ x, (s2.extract 0 (s2.size - 1)).data.toList.head? = some x → blk x = false by
              intro y hy
              rw [extr_take] at hy
              refine HQ2.out.2.2 y ?_
              rw [HE.out]
              cases hl : s2.data.toList.take (s2.size - 1) with
              | nil => rw [hl] at hy; cases hy
              | cons a b => rw [hl] at hy; exact hy)
            have HSz := Hid.of (show (s2.extract 0 (s2.size - 1)).size = s2.size - 1 by rw [ByteArray.size_extract]; omega)
            go_wp2
            go_roundw
            all_goals first
              | exact ⟨_, rfl, by rw [HSz.out]; omega, Hid.of ⟨HQ2.out.1, HD.out, HH.out⟩⟩
              | (show s2.size - 0 = 0; omega)
              | (show (s2.extract 0 (s2.size - 1)).size < s2.size; rw [HSz.out]; omega)
              | (simp [szOf]; omega)
          | false =>
            cases h9 : ((x.toNat : Int) == 9) with
            | true =>
              have HBk := Hid.of (blk_yes9 h9)
              have HD := Hid.of (show trm (s2.extract 0 (s2.size - 1)).data.toList = r by
                rw [extr_take]
                have h1 := HQ2.out.2.1
                rw [HE.out, trm_back HBk.out] at h1
                exact h1)
              have HH := Hid.of (show ∀ x, (s2.extract 0 (s2.size - 1)).data.toList.head? = some x → blk x = false by
                intro y hy
                rw [extr_take] at hy
                refine HQ2.out.2.2 y ?_
                rw [HE.out]
                cases hl : s2.data.toList.take (s2.size - 1) with
                | nil => rw [hl] at hy; cases hy
                | cons a b => rw [hl] at hy; exact hy)
              have HSz := Hid.of (show (s2.extract 0 (s2.size - 1)).size = s2.size - 1 by rw [ByteArray.size_extract]; omega)
              go_wp2
              go_roundw
              all_goals first
                | exact ⟨_, rfl, by rw [HSz.out]; omega, Hid.of ⟨HQ2.out.1, HD.out, HH.out⟩⟩
                | (show s2.size - 0 = 0; omega)
                | (show (s2.extract 0 (s2.size - 1)).size < s2.size; rw [HSz.out]; omega)
                | (simp [szOf]; omega)
            | false =>
              have HT := Hid.of (show s2.data.toList = r by
                have h1 := HQ2.out.2.1
                rw [trm_id ⟨HQ2.out.2.2, fun y hy => ?_⟩] at h1
                · exact h1
                · rw [HE.out, List.getLast?_concat] at hy
                  injection hy with hy
                  rw [← hy]
                  exact blk_no h32 h9)
              go_wp2
              go_ret
              rw [← HT.out, vs_data']
              exact ⟨rfl, HQ2.out.1⟩
        · have h0z : ¬ (0 : Int) < (s2.size : Int) := by omega
          have HT := Hid.of (show s2.data.toList = r by
            have h1 := HQ2.out.2.1
            have h2 : s2.data.toList = [] := List.eq_nil_of_length_eq_zero (by rw [← Go.Lib.size_eq]; omega)
            rw [h2] at h1 ⊢
            exact h1)
          go_wp2
          go_ret
          rw [← HT.out, vs_data']
          exact ⟨rfl, HQ2.out.1⟩
end Go.Proofs.YtbgjnghjddcooaaGreatDoor
namespace Go.Proofs.YtbgjnghjddcooaaGreatDoor
open Go.RowKit Go.Shelf TextNum
def clw : ByteArray := ⟨#[99, 111, 110, 116, 101, 110, 116, 45, 108, 101, 110, 103, 116, 104]⟩
def tew : ByteArray := ⟨#[116, 114, 97, 110, 115, 102, 101, 114, 45, 101, 110, 99, 111, 100, 105, 110, 103]⟩
theorem kep_lws (f : FD) : kep f = !(lws f.n.data.toList == clw.data.toList || lws f.n.data.toList == tew.data.toList) := by
  unfold kep kdf kdp
  generalize lws f.n.data.toList = x
  by_cases h1 : x = lws (kdT.getD 0 (⟨#[]⟩, 0)).1.data.toList
  · subst h1; decide +kernel
  · by_cases h2 : x = lws (kdT.getD 1 (⟨#[]⟩, 0)).1.data.toList
    · subst h2; decide +kernel
    · by_cases h3 : x = lws (kdT.getD 2 (⟨#[]⟩, 0)).1.data.toList
      · subst h3; decide +kernel
      · by_cases h4 : x = lws (kdT.getD 3 (⟨#[]⟩, 0)).1.data.toList
        · subst h4; decide +kernel
        · have e3 : lws (kdT.getD 2 (⟨#[]⟩, 0)).1.data.toList = tew.data.toList := by decide +kernel
          have e4 : lws (kdT.getD 3 (⟨#[]⟩, 0)).1.data.toList = clw.data.toList := by decide +kernel
          have hf : kdT.find? (fun p => lws p.1.data.toList == x) = none := by
            rw [List.find?_eq_none]
            intro p hp
            rw [beq_iff_eq]
            intro e
            have hk : kdT = [kdT.getD 0 (⟨#[]⟩, 0), kdT.getD 1 (⟨#[]⟩, 0), kdT.getD 2 (⟨#[]⟩, 0), kdT.getD 3 (⟨#[]⟩, 0)] := rfl
            rw [hk] at hp
            simp only [List.mem_cons, List.not_mem_nil, or_false] at hp
            rcases hp with rfl | rfl | rfl | rfl
            · exact h1 e.symm
            · exact h2 e.symm
            · exact h3 e.symm
            · exact h4 e.symm
          rw [e3] at h3
          rw [e4] at h4
          rw [hf]
          simp [h3, h4]
theorem Itoa_walk (n : Int) (h0 : -9223372036854775808 ≤ n) (h1 : n ≤ 9223372036854775807) (w : World) (hG : GN w) : Calls Tryz.prog 42 #[.int .i64 n] w fun e w' => e = .returned (vs (Go.Lib.itoa n)) ∧ Up w w' := by
  refine Calls.mono (Go.Proofs.Any.strconv_Itoa Tryz.laysm171 n h0 h1 w hG.tab) ?_
  rintro e w' ⟨rfl, k, os, rfl⟩
  exact ⟨rfl, ((Up.refl w).drewN k).trans (up_grow _ os)⟩
/-- the fields that must come back -/
def tld (fs : List FD) (len : Int) : List FD := if 0 ≤ len then pfs fs ++ [lnf len.toNat] else pfs fs
set_option maxRecDepth 100000 in
set_option maxHeartbeats 2000000 in
theorem told_walk (a : Option Addr) (fs : List FD) (c : Nat) (len : Int) (w : World) (h : FdL w a fs c) (hG : GN w) (hl : szs fs ≤ 1099511627776) (hlen : len ≤ 1099511627776) (hlen0 : -1 ≤ len) :
    Calls Tryz.prog 23 #[.slice a fs.length c, .int .i64 len] w fun e w' => (∃ a2 c2, e = .returned (.slice a2 (tld fs len).length c2) ∧ Hid (FdO w' w.heap.size a2 (tld fs len) c2)) ∧ Up w w' := by
  have HF := Hid.of h
  have HGn := Hid.of hG
  have hcap := h.cap
  have hsl := szs_len fs
  have HZ := Hid.of (fun i => Nat.le_trans (szs_take fs i) hl)
  clear h hG hl
  have hfl : fs.length ≤ 1099511627776 := by have := HZ.out fs.length; rw [List.take_length] at this; omega
  clear hsl
  go_enter Tryz.func23, Tryz.ntmps23
  go_wp2
  go_loopw [5, 6] (fun v5 v6 wr => ∃ i : Nat, v6 = .int .i64 (i : Int) ∧ i ≤ fs.length ∧ ∃ q a7 c7, v5 = .slice a7 q c7 ∧ q ≤ i ∧ Hid (FdO wr w.heap.size a7 (pfs (fs.take i)) c7 ∧ Up w wr ∧ (pfs (fs.take i)).length = q)) (fun _ v6 _ => fs.length - (intOf v6).toNat)
  case atStart => exact ⟨0, rfl, Nat.zero_le _, 0, none, 0, rfl, Nat.le_refl _, Hid.of ⟨World.ownsRow_nil _ _ _ _, Up.refl _, rfl⟩⟩
  case round =>
    obtain ⟨i, rfl, hi, q, a7, c7, rfl, hqi, hU⟩ := hrel
    have HQ := Hid.of hU.out
    clear hU
    by_cases hil : i < fs.length
    · have hilz : (i : Int) < (fs.length : Int) := by omega
      obtain ⟨b, off, rfl, k1, k2⟩ := HF.out.cells i hil
      have HT := Hid.of (List.take_succ_eq_append_getElem hil)
      obtain ⟨f, hf⟩ : ∃ f, fs[i] = f := ⟨_, rfl⟩
      rw [hf] at k1 k2 HT
      have HK1 := Hid.of k1
      have HK2 := Hid.of k2
      have h5 := HZ.out (i + 1)
      rw [HT.out, szs_snoc] at h5
      unfold szf at h5
      have hfv : f.v.size ≤ 1099511627776 := by omega
      have hfn : f.n.size ≤ 1099511627776 := by omega
      have HLn := Hid.of HQ.out.2.2
      have k3 := HQ.out.2.1.cell k1
      clear hf k1 k2 h5
      go_wp2_with (with_reducible show wpList _ _ _ ({ dst := _, op := Op.indexAddr 25 _ _, type := _, pos := _, after := _, guard := _ } :: _) _ _; refine Shut.out ?_)
      show wpList _ _ _ _ _ _
      refine wpList_val7 (.pointer (some ⟨b, off + i * 2, none⟩)) rfl (exec_idxFd i hil rfl rfl rfl) ?_
      simp only [Act.put, List.setIfInBounds_toArray, List.set_cons_zero, List.set_cons_succ]
      go_wp2_with fail
      refine (lowerL_walk f.n wr hfn).mono ?_
      rintro e w4 ⟨rfl, u5⟩
      have HU4 := Hid.of (HQ.out.2.1.trans u5)
      have HO4 := Hid.of (ow_up HQ.out.1 u5)
      clear u5 HQ k3
      have HNm0 : (⟨(lws f.n.data.toList).toArray⟩ : ByteArray).data.toList = lws f.n.data.toList := rfl
      generalize (⟨(lws f.n.data.toList).toArray⟩ : ByteArray) = nm at HNm0 ⊢
      have HNm := Hid.of HNm0
      clear HNm0
      dsimp only
      have e1 : (nm.toList == [99, 111, 110, 116, 101, 110, 116, 45, 108, 101, 110, 103, 116, 104]) = (nm.data.toList == clw.data.toList) := by rw [Go.Lib.toList_data]; rfl
      have e2 : (nm.toList == [116, 114, 97, 110, 115, 102, 101, 114, 45, 101, 110, 99, 111, 100, 105, 110, 103]) = (nm.data.toList == tew.data.toList) := by rw [Go.Lib.toList_data]; rfl
      cases h3 : (nm.data.toList == clw.data.toList) with
      | true =>
        rw [h3] at e1
        clear e2
        have HS7 := Hid.of (show pfs (fs.take (i + 1)) = pfs (fs.take i) by rw [HT.out, pfs_no (by rw [kep_lws, ← HNm.out]; simp [h3])])
        have HO8 := Hid.of (show FdO w4 w.heap.size a7 (pfs (fs.take (i + 1))) c7 by rw [HS7.out]; exact HO4.out)
        have HL8 := Hid.of (show (pfs (fs.take (i + 1))).length = q by rw [HS7.out]; exact HLn.out)
        go_wp2
        go_roundw
        all_goals first
          | exact ⟨i + 1, by go_num, by omega, q, a7, c7, rfl, by omega, Hid.of ⟨HO8.out, HU4.out, HL8.out⟩⟩
          | (simp [intOf]; omega)
      | false =>
        rw [h3] at e1
        cases h4 : (nm.data.toList == tew.data.toList) with
        | true =>
          rw [h4] at e2
          have HS7 := Hid.of (show pfs (fs.take (i + 1)) = pfs (fs.take i) by rw [HT.out, pfs_no (by rw [kep_lws, ← HNm.out]; simp [h3, h4])])
          have HO8 := Hid.of (show FdO w4 w.heap.size a7 (pfs (fs.take (i + 1))) c7 by rw [HS7.out]; exact HO4.out)
          have HL8 := Hid.of (show (pfs (fs.take (i + 1))).length = q by rw [HS7.out]; exact HLn.out)
          go_wp2
          go_roundw
          all_goals first
            | exact ⟨i + 1, by go_num, by omega, q, a7, c7, rfl, by omega, Hid.of ⟨HO8.out, HU4.out, HL8.out⟩⟩
            | (simp [intOf]; omega)
        | false =>
          rw [h4] at e2
          have HT2 := Hid.of (show pfs (fs.take (i + 1)) = pfs (fs.take i) ++ [tfd f] by rw [HT.out, pfs_yes (by rw [kep_lws, ← HNm.out]; simp [h3, h4])])
          have HL7 := Hid.of (show (pfs (fs.take (i + 1))).length = q + 1 by rw [HT2.out, List.length_append, HLn.out]; rfl)
          go_wp2
          refine wp_region_held_drew (S := fun w2 => Up w w2) (by kernel_rfl) HU4.out.drew (fun hS => ?_)
          refine wpAnyH_take (i := 0) (oi := { dst := some 26, op := Go.Op.move (Go.Operand.tmp 5), type := 25, pos := "outright.go:65", after := #[], guard := none }) (v := .slice a7 q c7) rfl (by kernel_rfl) (by kernel_rfl) (by kernel_rfl) (fun _ _ _ h => h) (Or.inl ⟨by kernel_rfl, ?_⟩) hS ?_
          · intro w5 hSw
            clear hSw hS
            go_simp
          simp only [Act.put, List.setIfInBounds_toArray, List.set_cons_zero, List.set_cons_succ]
          refine wpAnyH_take (i := 1) (oi := { dst := some 27, op := Go.Op.move (Go.Operand.tmp 0), type := 25, pos := "outright.go:65", after := #[], guard := none }) (v := .slice (some ⟨b, off, none⟩) fs.length c) rfl (by kernel_rfl) (by kernel_rfl) (by kernel_rfl) (fun _ _ _ h => h) (Or.inl ⟨by kernel_rfl, ?_⟩) hS ?_
          · intro w5 hSw
            clear hSw hS
            go_simp
          simp only [Act.put, List.setIfInBounds_toArray, List.set_cons_zero, List.set_cons_succ]
          refine wpAnyH_take (i := 2) (oi := { dst := some 28, op := Go.Op.move (Go.Operand.tmp 6), type := 3, pos := "outright.go:65", after := #[], guard := none }) (v := .int .i64 (i : Int)) rfl (by kernel_rfl) (by kernel_rfl) (by kernel_rfl) (fun _ _ _ h => h) (Or.inl ⟨by kernel_rfl, ?_⟩) hS ?_
          · intro w5 hSw
            clear hSw hS
            go_simp
          simp only [Act.put, List.setIfInBounds_toArray, List.set_cons_zero, List.set_cons_succ]
          refine wpAnyH_take (i := 3) (oi := { dst := some 29, op := Go.Op.indexAddr 25 (Go.Operand.tmp 27) (Go.Operand.tmp 28), type := 0, pos := "outright.go:65", after := #[{ on := 1, ground := Go.Ground.data }, { on := 2, ground := Go.Ground.data }], guard := none }) (v := .pointer (some ⟨b, off + i * 2, none⟩)) rfl (by kernel_rfl) (by kernel_rfl) (by kernel_rfl) (fun _ _ _ h => h) (Or.inl ⟨by kernel_rfl, ?_⟩) hS ?_
          · intro w5 hSw
            clear hSw hS
            exact exec_idxFd i hil rfl rfl rfl
          simp only [Act.put, List.setIfInBounds_toArray, List.set_cons_zero, List.set_cons_succ]
          refine wpAnyH_take (i := 4) (oi := { dst := some 30, op := Go.Op.fieldAddr 73 (Go.Operand.tmp 29) 0, type := 0, pos := "outright.go:65", after := #[{ on := 3, ground := Go.Ground.data }], guard := none }) (v := .pointer (some ⟨b, off + i * 2, none⟩)) rfl (by kernel_rfl) (by kernel_rfl) (by kernel_rfl) (fun _ _ _ h => h) (Or.inl ⟨by kernel_rfl, ?_⟩) hS ?_
          · intro w5 hSw
            clear hSw hS
            go_simp
          simp only [Act.put, List.setIfInBounds_toArray, List.set_cons_zero, List.set_cons_succ]
          refine wpAnyH_take (i := 5) (oi := { dst := some 31, op := Go.Op.load 9 (Go.Operand.tmp 30), type := 9, pos := "outright.go:65", after := #[{ on := 4, ground := Go.Ground.data }], guard := none }) (v := .string f.n) rfl (by kernel_rfl) (by kernel_rfl) (by kernel_rfl) (fun _ _ _ h => h) (Or.inl ⟨by kernel_rfl, ?_⟩) hS ?_
          · intro w5 hSw
            have h0 := hSw.cell HK1.out
            clear hSw hS
            go_simp
          simp only [Act.put, List.setIfInBounds_toArray, List.set_cons_zero, List.set_cons_succ]
          refine wpAnyH_take (i := 6) (oi := { dst := some 32, op := Go.Op.move (Go.Operand.tmp 0), type := 25, pos := "outright.go:65", after := #[], guard := none }) (v := .slice (some ⟨b, off, none⟩) fs.length c) rfl (by kernel_rfl) (by kernel_rfl) (by kernel_rfl) (fun _ _ _ h => h) (Or.inl ⟨by kernel_rfl, ?_⟩) hS ?_
          · intro w5 hSw
            clear hSw hS
            go_simp
          simp only [Act.put, List.setIfInBounds_toArray, List.set_cons_zero, List.set_cons_succ]
          refine wpAnyH_take (i := 7) (oi := { dst := some 33, op := Go.Op.move (Go.Operand.tmp 6), type := 3, pos := "outright.go:65", after := #[], guard := none }) (v := .int .i64 (i : Int)) rfl (by kernel_rfl) (by kernel_rfl) (by kernel_rfl) (fun _ _ _ h => h) (Or.inl ⟨by kernel_rfl, ?_⟩) hS ?_
          · intro w5 hSw
            clear hSw hS
            go_simp
          simp only [Act.put, List.setIfInBounds_toArray, List.set_cons_zero, List.set_cons_succ]
          refine wpAnyH_take (i := 8) (oi := { dst := some 34, op := Go.Op.indexAddr 25 (Go.Operand.tmp 32) (Go.Operand.tmp 33), type := 0, pos := "outright.go:65", after := #[{ on := 6, ground := Go.Ground.data }, { on := 7, ground := Go.Ground.data }], guard := none }) (v := .pointer (some ⟨b, off + i * 2, none⟩)) rfl (by kernel_rfl) (by kernel_rfl) (by kernel_rfl) (fun _ _ _ h => h) (Or.inl ⟨by kernel_rfl, ?_⟩) hS ?_
          · intro w5 hSw
            clear hSw hS
            exact exec_idxFd i hil rfl rfl rfl
          simp only [Act.put, List.setIfInBounds_toArray, List.set_cons_zero, List.set_cons_succ]
          refine wpAnyH_take (i := 9) (oi := { dst := some 35, op := Go.Op.fieldAddr 73 (Go.Operand.tmp 34) 1, type := 0, pos := "outright.go:65", after := #[{ on := 8, ground := Go.Ground.data }], guard := none }) (v := .pointer (some ⟨b, off + i * 2 + 1, none⟩)) rfl (by kernel_rfl) (by kernel_rfl) (by kernel_rfl) (fun _ _ _ h => h) (Or.inl ⟨by kernel_rfl, ?_⟩) hS ?_
          · intro w5 hSw
            clear hSw hS
            go_simp
          simp only [Act.put, List.setIfInBounds_toArray, List.set_cons_zero, List.set_cons_succ]
          refine wpAnyH_take (i := 10) (oi := { dst := some 36, op := Go.Op.load 9 (Go.Operand.tmp 35), type := 9, pos := "outright.go:65", after := #[{ on := 9, ground := Go.Ground.data }], guard := none }) (v := .string f.v) rfl (by kernel_rfl) (by kernel_rfl) (by kernel_rfl) (fun _ _ _ h => h) (Or.inl ⟨by kernel_rfl, ?_⟩) hS ?_
          · intro w5 hSw
            have h0 := hSw.cell HK2.out
            clear hSw hS
            go_simp
          simp only [Act.put, List.setIfInBounds_toArray, List.set_cons_zero, List.set_cons_succ]
          refine wpAnyH_ready (rs := [11]) (by kernel_rfl) (by simp) ?_
          refine AllReadyH.cons (o := { dst := some 37, op := Go.Op.call { callee := Go.Callee.value (Go.Operand.func 41), args := #[Go.Operand.tmp 36], argTypes := #[9] }, type := 9, pos := "outright.go:65", after := #[{ on := 10, ground := Go.Ground.data }], guard := none }) rfl (fun K hK => ?_) AllReadyH.nil
          rw [if_pos (by kernel_rfl)]
          go_simp
          refine (trimmed_walk f.v hfv w4.drew).mono ?_
          rintro e w6 ⟨rfl, h9⟩
          obtain rfl := h9.symm
          have HVt := Hid.of (show vs (trm f.v.data.toList) = .string (tfd f).v from rfl)
          clear h9
          rw [HVt.out]
          dsimp only
          refine hK.out _ _ hS (fun hS => ?_)
          clear hK K
          refine wpAnyH_take (i := 12) (oi := { dst := some 38, op := Go.Op.build 73 #[(0, Go.Operand.tmp 31), (1, Go.Operand.tmp 37)], type := 73, pos := "outright.go:65", after := #[{ on := 5, ground := Go.Ground.data }, { on := 11, ground := Go.Ground.data }], guard := none }) (v := .agg #[.string f.n, .string (tfd f).v]) rfl (by kernel_rfl) (by kernel_rfl) (by kernel_rfl) (fun _ _ _ h => h) (Or.inl ⟨by kernel_rfl, ?_⟩) hS ?_
          · intro w5 hSw
            clear hSw hS
            go_simp
          simp only [Act.put, List.setIfInBounds_toArray, List.set_cons_zero, List.set_cons_succ]
          refine wpAnyH_ready (rs := [13]) (by kernel_rfl) (by simp) ?_
          refine AllReadyH.cons (o := { dst := some 39, op := Go.Op.buildSlice 25 1 #[(0, Go.Operand.tmp 38)], type := 25, pos := "outright.go:65", after := #[{ on := 12, ground := Go.Ground.data }], guard := none }) rfl (fun K hK => ?_) AllReadyH.nil
          rw [if_pos (by kernel_rfl)]
          go_simp
          refine hK.out _ _ (hS.alloc _) (fun hS => ?_)
          clear hK K
          refine wpAnyH_ready (rs := [14]) (by kernel_rfl) (by simp) ?_
          refine AllReadyH.cons (o := { dst := some 40, op := Go.Op.call { callee := Go.Callee.builtin Go.Builtin.append, args := #[Go.Operand.tmp 26, Go.Operand.tmp 39], argTypes := #[25, 25] }, type := 25, pos := "outright.go:65", after := #[{ on := 0, ground := Go.Ground.data }, { on := 13, ground := Go.Ground.data }, { on := 11, ground := Go.Ground.chain }], guard := none }) rfl (fun K hK => oper_of_list ?_) AllReadyH.nil
          refine wpList_appFd (w := w4.drew) (N := w.heap.size) rfl _ _ rfl a7 c7 (pfs (fs.take i)) (tfd f) HLn.out rfl rfl (ow_up HO4.out (Up.refl _).drew) HU4.out.drew.size (by omega) ?_
          intro ax2 cx2 w7 o7 u7 g7
          have HO7 := Hid.of (show FdO w7 w.heap.size ax2 (pfs (fs.take (i + 1))) cx2 by rw [HT2.out]; exact o7)
          have HU7 := Hid.of (u7 w HU4.out.drew (Nat.le_refl _))
          clear o7 u7 g7
          refine hK.out _ _ HU7.out (fun hS => ?_)
          clear hK K
          simp only [Act.put, List.setIfInBounds_toArray, List.set_cons_zero, List.set_cons_succ]
          refine wpAnyH_take (i := 15) (oi := { dst := some 5, op := Go.Op.assign (Go.Operand.tmp 40), type := 25, pos := "outright.go:65", after := #[{ on := 14, ground := Go.Ground.data }, { on := 14, ground := Go.Ground.chain }, { on := 0, ground := Go.Ground.phase }, { on := 1, ground := Go.Ground.phase }, { on := 2, ground := Go.Ground.phase }, { on := 3, ground := Go.Ground.phase }, { on := 4, ground := Go.Ground.phase }, { on := 5, ground := Go.Ground.phase }, { on := 6, ground := Go.Ground.phase }, { on := 7, ground := Go.Ground.phase }, { on := 8, ground := Go.Ground.phase }, { on := 9, ground := Go.Ground.phase }, { on := 10, ground := Go.Ground.phase }, { on := 11, ground := Go.Ground.phase }, { on := 12, ground := Go.Ground.phase }, { on := 13, ground := Go.Ground.phase }, { on := 14, ground := Go.Ground.phase }], guard := none }) (v := .slice ax2 (q + 1) cx2) rfl (by kernel_rfl) (by kernel_rfl) (by kernel_rfl) (fun _ _ _ h => h) (Or.inl ⟨by kernel_rfl, ?_⟩) hS ?_
          · intro w5 hSw
            clear hSw hS
            go_simp
          simp only [Act.put, List.setIfInBounds_toArray, List.set_cons_zero, List.set_cons_succ]
          clear hS
          refine wpAnyH_done (by kernel_rfl) ?_ _
          go_wp2
          go_roundw
          all_goals first
            | exact ⟨i + 1, by go_num, by omega, q + 1, ax2, cx2, rfl, by omega, Hid.of ⟨HO7.out, HU7.out, HL7.out⟩⟩
            | (simp [intOf]; omega)
    · have hilz : ¬ (i : Int) < (fs.length : Int) := by omega
      have HTk := Hid.of (show fs.take i = fs from List.take_of_length_le (by omega))
      rw [HTk.out] at HQ
      by_cases hl0 : 0 ≤ len
      · have HTl := Hid.of (show tld fs len = pfs fs ++ [lnf len.toNat] by unfold tld; rw [if_pos hl0])
        have HLf := Hid.of (show vs (Go.Lib.itoa len) = .string (lnf len.toNat).v by unfold lnf; rw [Int.toNat_of_nonneg hl0])
        go_wp2_with fail
        refine (Itoa_walk len (by omega) (by omega) wr (HGn.out.up HQ.out.2.1)).mono ?_
        rintro e w3 ⟨rfl, h9⟩
        have HU3 := Hid.of (HQ.out.2.1.trans h9)
        have HO3 := Hid.of (ow_up HQ.out.1 h9)
        clear h9
        rw [HLf.out]
        dsimp only
        go_wp2_with (with_reducible show wpList _ _ _ ({ dst := _, op := Op.call { callee := Callee.builtin Builtin.append, args := _, argTypes := _ }, type := _, pos := _, after := _, guard := _ } :: _) _ _; refine Shut.out ?_)
        show wpList _ _ _ _ _ _
        refine wpList_appFd (w := w3) (N := w.heap.size) rfl _ _ rfl a7 c7 (pfs fs) (lnf len.toNat) HQ.out.2.2 rfl rfl HO3.out HU3.out.size (by omega) ?_
        intro a4 c4 w4 o4 u4 _
        have HU4 := Hid.of (u4 w HU3.out (Nat.le_refl _))
        have HO4 := Hid.of o4
        clear o4 u4
        simp only [Act.put, List.setIfInBounds_toArray, List.set_cons_zero, List.set_cons_succ]
        go_wp2
        go_ret
        rw [HTl.out]
        exact ⟨⟨a4, c4, by rw [List.length_append, HQ.out.2.2]; rfl, Hid.of HO4.out⟩, HU4.out⟩
      · have HTl := Hid.of (show tld fs len = pfs fs by unfold tld; rw [if_neg hl0])
        go_wp2
        go_ret
        rw [HTl.out]
        exact ⟨⟨a7, c7, by rw [HQ.out.2.2]; rfl, Hid.of HQ.out.1⟩, HQ.out.2.1⟩
end Go.Proofs.YtbgjnghjddcooaaGreatDoor
namespace Go.Proofs.YtbgjnghjddcooaaGreatDoor
open Go.RowKit Go.Shelf TextNum
/-- bytes that are read are appended -/
theorem wpList_appSb2 {w : World} {N q : Nat} {ops : Array Oper} {rest : List Oper} {o : Oper} {a : Act} {Q : Exit → Act → World → Prop} (hgd : o.guard = none) (x y : Operand)
    (ho : o.op = .call { callee := .builtin .append, args := #[x, y], argTypes := #[22, 22] }) (ax : Option Addr) (cx : Nat) (xs : List UInt8) (vy : Value) (ds : List UInt8) (hx : a.eval x = .slice ax q cx) (hy : a.eval y = vy) (hSb : Sb w vy ds)
    (hR : w.ownsRow N 5 1 (.slice ax q cx) q (cb xs)) (hNw : N ≤ w.heap.size) (hql : q + ds.length ≤ 1099511627776)
    (K : ∀ ax2 cx2 w', w'.ownsRow N 5 1 (.slice ax2 (q + ds.length) cx2) (q + ds.length) (cb (xs ++ ds)) → (∀ W, Up W w → W.heap.size ≤ N → Up W w') → w.grownBy w' (Value.slice ax q cx).ownBlock → wpList Tryz.prog ops Q rest (a.put o.dst (.slice ax2 (q + ds.length) cx2)) w') :
    wpList Tryz.prog ops Q (o :: rest) a w := by
  obtain ⟨i0, hi0, hz0, hz1, hz2⟩ := info_parts Tryz.infoU8
  obtain ⟨ay, cy, rfl, k1, k2, k3, k4⟩ := hSb
  cases ay with
  | none =>
    obtain ⟨rfl, rfl⟩ := k3 rfl
    refine wpList_plain hgd fun K2 hK => ?_
    have hr := run_app_none (ty := o.type) (c := 0) hR
    unfold Oper.wp execOp
    simp only [List.length_nil] at hy
    simp only [ho, resolve, invoke, builtin, Sem.run_bind, Sem.run_pure, Result.andThen_ok, List.map_toArray, List.map_cons, List.map_nil, hx, hy, hr]
    exact hK _ _ (K ax cx w (by rw [List.append_nil]; exact hR) (fun W hU _ => hU) (World.grownBy.refl _ _))
  | some ad =>
    refine wpList_append_frs hgd x y 22 ho N 5 i0 (.int .u8 0) 1 Tryz.underlying22 hi0 hz0 hz1 hz2 rfl _ q _ hx hR ad ds.length cy (cb ds) hy (by rw [cb_length]; omega) (k4 ad rfl).2 (cb_one ds) (by simp only [maxLen]; omega) (by omega) hNw ?_
    intro v8 w8 o8 g8 _
    obtain ⟨a4, c4, rfl⟩ := row_len o8
    exact K a4 c4 w8 (by rw [cb_append]; exact o8) (fun W hU hW => up_grownBy hU g8 (fun g hg => Nat.le_trans hW (World.ownsRow.lt hR g hg).1)) g8
theorem tld_frF (fs : List FD) (n : Nat) : tld fs (if n = 0 then -1 else (n : Int)) = frF fs n := by
  unfold tld frF
  by_cases h : n = 0
  · rw [if_pos h, if_neg (by decide), if_neg (by omega)]
  · rw [if_neg h, if_pos (by omega), if_pos (by omega), Int.toNat_natCast]
theorem frQ_er {m t : ByteArray} {mi : Int} {fs : List FD} {bd : List UInt8} {k : Nat} (h : frQ m t mi fs bd = .error k) : (nums k != 0) = true := by
  have hk : k < 12 := by
    unfold frQ at h
    cases hc : ckq m t mi (frF fs bd.length) bd.length with
    | some j => rw [hc] at h; injection h with h; rw [← h]; exact ckq_lt hc
    | none => rw [hc] at h; cases h
  have : ∀ k, k < 12 → (nums k != 0) = true := by decide +kernel
  exact this k hk
theorem frQ_ok {m t : ByteArray} {mi : Int} {fs : List FD} {bd l : List UInt8} (h : frQ m t mi fs bd = .ok l) : ckq m t mi (frF fs bd.length) bd.length = none ∧ l = prt (frS m t mi) (frF fs bd.length) bd := by
  unfold frQ at h
  cases hc : ckq m t mi (frF fs bd.length) bd.length with
  | some j => rw [hc] at h; cases h
  | none => rw [hc] at h; injection h with h; exact ⟨rfl, h.symm⟩
theorem prt_len {st : List UInt8} {F : List FD} {bd : List UInt8} : (prt st F bd).length = st.length + 2 + szs F + bd.length := by
  have h1 := lbs_len F
  simp only [prt, List.length_append, List.length_cons, List.length_nil]
  omega
set_option maxRecDepth 100000 in
set_option maxHeartbeats 8000000 in
theorem whole_walk (ad : Nat → Addr) (m t : ByteArray) (mi : Int) (an : Option Addr) (ns : List ByteArray) (cn : Nat) (av : Option Addr) (us : List ByteArray) (cv : Nat) (ab : Option Addr) (nb cb' : Nat) (bd : List UInt8) (pad : Int) (ax : Option Addr) (nx cx : Nat) (tl : List UInt8) (at' : Int) (w : World) (hN : StL w an ns cn) (hV : StL w av us cv) (hB : Sb w (.slice ab nb cb') bd) (hT : Sb w (.slice ax nx cx) tl) (hW : GW w ad)
    (hm : m.size ≤ 1099511627776) (ht : t.size ≤ 1099511627776) (hm0 : -9223372036854775808 ≤ mi) (hm1 : mi ≤ 9223372036854775807) (hnl : ns.length ≤ 1048576) (hbl : bd.length ≤ 1048576) (htl : tl.length ≤ 1048576) (hz : szs (mkF ns us) ≤ 1099511627000) :
    Calls Tryz.prog 7 #[.agg #[.string m, .string t, .int .i64 mi, .slice an ns.length cn, .slice av us.length cv, .slice ab nb cb', .int .i64 pad], .slice ax nx cx, .int .i64 at'] w fun e w' => e = .returned (.bool true) ∧ Up w w' := by
  have HN := Hid.of hN
  have HV := Hid.of hV
  have HB := Hid.of hB
  have HT := Hid.of hT
  have HW := Hid.of hW
  obtain ⟨hbn, hbc, hbm⟩ := hB.len
  obtain ⟨htn, htc, htm⟩ := hT.len
  unfold maxLen at hbm htm
  have HBn := Hid.of hbn.symm
  have HTn := Hid.of htn.symm
  have hnb : nb ≤ 1048576 := by omega
  have hnx : nx ≤ 1048576 := by omega
  clear hN hV hB hT hW hbn htn
  obtain ⟨F, hF⟩ : ∃ F, mkF ns us = F := ⟨_, rfl⟩
  have HFl := Hid.of (show F.length = ns.length by rw [← hF, mkF_len])
  rw [hF] at hz
  have HFe := Hid.of hF
  clear hF
  have HA0 := Hid.of (at_new w 52 [.string m, .string t, .int .i64 mi, .slice an ns.length cn, .slice av us.length cv, .slice ab nb cb', .int .i64 pad])
  have HU0 := Hid.of ((Up.refl w).alloc (.cells [.string m, .string t, .int .i64 mi, .slice an ns.length cn, .slice av us.length cv, .slice ab nb cb', .int .i64 pad].toArray 52))
  go_enter Tryz.func7, Tryz.ntmps7
  go_wp2_with fail
  obtain ⟨w1, hw1⟩ : ∃ w1, w.alloc (.cells [.string m, .string t, .int .i64 mi, .slice an ns.length cn, .slice av us.length cv, .slice ab nb cb', .int .i64 pad].toArray 52) = w1 := ⟨_, rfl⟩
  rw [hw1] at HA0 HU0
  change Calls _ _ _ (w.alloc (.cells [.string m, .string t, .int .i64 mi, .slice an ns.length cn, .slice av us.length cv, .slice ab nb cb', .int .i64 pad].toArray 52)) _
  rw [hw1]
  clear hw1
  refine (known_walk ad w1 (HW.out.up HU0.out)).mono ?_
  rintro e w2 ⟨rfl, h9⟩
  have HU2 := Hid.of (HU0.out.trans h9)
  have HA2 := Hid.of (HA0.out.up h9)
  clear h9
  dsimp only
  have k6 := HA2.out.cell (i := 6) rfl
  have f6 := HA2.out.thaw 6
  have HU3a := Hid.of (HU2.out.by (grown_set1 w2 w.heap.size 6 (.int .i64 0)) (fun g hg => by have := Option.some.inj hg; omega))
  have HA3a := Hid.of (show At (w2.setCell ⟨w.heap.size, 6, none⟩ (.int .i64 0)) w.heap.size 52 [.string m, .string t, .int .i64 mi, .slice an ns.length cn, .slice av us.length cv, .slice ab nb cb', .int .i64 0] from HA2.out.set 6 (.int .i64 0))
  go_wp2_with (with_reducible show wpList _ _ _ ({ dst := _, op := Op.load 52 _, type := _, pos := _, after := _, guard := _ } :: _) _ _; refine Shut.out ?_)
  show wpList _ _ _ _ _ _
  obtain ⟨w3, hw3⟩ : ∃ w3, w2.setCell ⟨w.heap.size, 6, none⟩ (.int .i64 0) = w3 := ⟨_, rfl⟩
  rw [hw3] at HA3a HU3a
  change wpList _ _ _ _ _ (w2.setCell ⟨w.heap.size, 6, none⟩ (.int .i64 0))
  rw [hw3]
  clear hw3 k6 f6
  refine wpList_load_mid rfl _ _ rfl w.heap.size 0 rfl [.string m, .string t, .int .i64 mi, .slice an ns.length cn, .slice av us.length cv, .slice ab nb cb', .int .i64 0] _ HA3a.out.range Tryz.underlying52 rfl (by kernel_rfl) ?_
  simp only [Act.put, List.setIfInBounds_toArray, List.set_cons_zero, List.set_cons_succ]
  go_wp2_with fail
  refine (request_walk m t mi an ns cn av us cv ab nb cb' bd 0 w3 (HN.out.up HU3a.out) (HV.out.up HU3a.out) (HB.out.up HU3a.out) hnl hbl).mono ?_
  rintro e w4 ⟨⟨aF, cF, vF, rfl, hO⟩, h9⟩
  have hpd : pdd bd 0 = bd := by unfold pdd; simp
  rw [hpd, HFe.out] at hO
  obtain ⟨aR, cR, rfl⟩ := row_len hO.out.2
  rw [HBn.out]
  have HU4 := Hid.of (HU3a.out.trans h9)
  have HA4 := Hid.of (HA3a.out.up h9)
  have HF4 := Hid.of (FdO.fdl hO.out.1)
  have HB4 := Hid.of (Ow.sb hO.out.2)
  rw [HBn.out] at HB4
  clear hO h9 hpd
  obtain ⟨nF, hnF⟩ : ∃ nF, ns.length = nF := ⟨_, rfl⟩
  have HNF := Hid.of (show F.length = nF by rw [HFl.out]; exact hnF)
  have hnFl : nF ≤ 1048576 := by omega
  have HNs := Hid.of hnF
  dsimp only
  rw [hnF]
  clear hnF
  go_wp2_with (with_reducible show wpList _ _ _ ({ dst := _, op := Op.load 27 _, type := _, pos := _, after := _, guard := _ } :: _) _ _; refine Shut.out ?_)
  show wpList _ _ _ _ _ _
  obtain ⟨w5, hw5⟩ : ∃ w5, w4.alloc (.cells #[.string m, .string t, .int .i64 mi, .slice aF nF cF, .slice aR nb cR, .bool false] 27) = w5 := ⟨_, rfl⟩
  have HU5 := Hid.of (show Up w w5 by rw [← hw5]; exact HU4.out.alloc _)
  have HR5 := Hid.of (show At w5 w4.heap.size 27 [.string m, .string t, .int .i64 mi, .slice aF nF cF, .slice aR nb cR, .bool false] by rw [← hw5]; exact at_new w4 27 [.string m, .string t, .int .i64 mi, .slice aF nF cF, .slice aR nb cR, .bool false])
  have Hu5 := Hid.of (show Up w4 w5 by rw [← hw5]; exact (Up.refl w4).alloc _)
  change wpList _ _ _ _ _ (w4.alloc (.cells #[.string m, .string t, .int .i64 mi, .slice aF nF cF, .slice aR nb cR, .bool false] 27))
  rw [hw5]
  clear hw5
  have HQ5 := Hid.of (HA4.out.up Hu5.out)
  have HF5 := Hid.of (HF4.out.up Hu5.out)
  have HB5 := Hid.of (HB4.out.up Hu5.out)
  have HFR := Hid.of (FormatRequest_walk ad m t mi aF F cF aR nb cR bd false w5 HF5.out HB5.out (HW.out.up HU5.out) hm ht hm0 hm1 hz (by omega))
  refine wpList_load_mid rfl _ _ rfl w4.heap.size 0 rfl [.string m, .string t, .int .i64 mi, .slice aF nF cF, .slice aR nb cR, .bool false] _ HR5.out.range Tryz.underlying27 rfl (by kernel_rfl) ?_
  simp only [Act.put, List.setIfInBounds_toArray, List.set_cons_zero, List.set_cons_succ]
  rw [HNF.out] at HFR
  go_wp2_with fail
  refine HFR.out.mono ?_
  rintro e w6 ⟨hR, h9⟩
  have HU6 := Hid.of (HU5.out.trans h9)
  have Hk6 := Hid.of h9
  have HR6 := Hid.of (HR5.out.up h9)
  have HQ6 := Hid.of (HQ5.out.up h9)
  have HF6 := Hid.of (HF5.out.up h9)
  have HB6 := Hid.of (HB5.out.up h9)
  clear h9 HFR
  cases hq : frQ m t mi F bd with
  | error k =>
    rw [hq] at hR
    have hne := frQ_er hq
    obtain rfl := hR
    clear hq
    dsimp only
    go_wp2
    go_ret
    exact ⟨rfl, HU6.out⟩
  | ok l =>
    rw [hq] at hR
    obtain ⟨a8, c8, rfl, hO8⟩ := hR
    obtain ⟨hck, hl⟩ := frQ_ok hq
    have hcko := ckq_ok hck
    have hfl := ckf_none (ckq_none hck).2.2.2.2.1
    have hll : l.length ≤ 1099511 := by
      rw [hl, prt_len, frS_len]
      omega
    have HP0 := Hid.of (show rqP l = .ok ((⟨m.data.toList, t.data.toList, mi, frF F bd.length⟩, bd), l.length) by
      have h1 := rqP_prt hck []
      rw [List.append_nil, ← hl] at h1
      exact h1)
    have HPt := Hid.of (show rqP (l ++ tl) = .ok ((⟨m.data.toList, t.data.toList, mi, frF F bd.length⟩, bd), l.length) by
      have h1 := rqP_prt hck tl
      rw [← hl] at h1
      exact h1)
    clear hq hl hck hcko
    obtain ⟨FF, hFF⟩ : ∃ FF, frF F bd.length = FF := ⟨_, rfl⟩
    have HFF := Hid.of hFF
    rw [hFF] at HP0 HPt hfl
    clear hFF
    obtain ⟨nP, hnP⟩ : ∃ nP, FF.length = nP := ⟨_, rfl⟩
    have HNPx := Hid.of hnP
    have hnP64 : nP ≤ 64 := by rw [← hnP]; exact hfl.1
    clear hfl hnP
    have hl0 : 0 < l.length := by
      rcases Nat.eq_zero_or_pos l.length with h | h
      · exfalso
        have h1 := HP0.out
        rw [List.eq_nil_of_length_eq_zero h] at h1
        revert h1
        have : rqP [] = .error 2 := rfl
        rw [this]
        intro h2
        cases h2
      · exact h
    have HPre := Hid.of (fun i (hi : i < l.length) => rqP_pre HP0.out hi)
    obtain ⟨L, hL⟩ : ∃ L, l.length = L := ⟨_, rfl⟩
    have HL := Hid.of hL
    have HO8 := Hid.of hO8.out
    have HS8 := Hid.of (Ow.sb hO8.out)
    rw [hL] at HO8 HS8 HPre HP0 HPt hl0 hll ⊢
    clear hL hO8
    have hL40 : L ≤ 1099511627776 := by omega
    dsimp only
    have k4 := HR6.out.cell (i := 4) rfl
    have HBr := Hid.of (fun (w2 : World) (hu : Up w6 w2) => HB6.out.up hu)
    have HSh := Hid.of (fun (w2 : World) (hu : Up w6 w2) => short_walk ad at' hL40 hl0 w2 (HS8.out.up hu) (HW.out.up (HU6.out.trans hu)) HPre.out)
    by_cases hb0 : nb = 0
    · have hb0z : ((nb : Int) == 0) = true := by rw [hb0]; rfl
      have HTF := Hid.of (show tld F (-1) = FF by have h1 := tld_frF F bd.length; rw [HBn.out, if_pos hb0, ← HBn.out, HFF.out] at h1; exact h1)
      clear hb0
      go_wp2_with fail
      refine (ParseRequest_walk ad hL40 w6 HS8.out (HW.out.up HU6.out)).mono ?_
      rintro e w7 ⟨hR7, h9⟩
      rw [HP0.out] at hR7
      obtain ⟨aP, cP, vP, rfl, hO7⟩ := hR7
      have HU7 := Hid.of (HU6.out.trans h9)
      have Hk7 := Hid.of h9
      have HR7 := Hid.of (HR6.out.up h9)
      have HQ7 := Hid.of (HQ6.out.up h9)
      obtain ⟨aB, cB, rfl⟩ := row_len hO7.out.2
      have HF7 := Hid.of hO7.out.1
      have HB7 := Hid.of hO7.out.2
      clear hO7 h9
      unfold rqV
      dsimp only at HF7 HB7 ⊢
      rw [vs_data', vs_data', HNPx.out, HBn.out]
      rw [HBn.out] at HB7
      obtain ⟨cl, hcl⟩ : ∃ cl, cls (mi == 0) FF = cl := ⟨_, rfl⟩
      have HCl := Hid.of hcl
      rw [hcl]
      clear hcl
      obtain ⟨w8, hw8⟩ : ∃ w8, w7.alloc (.cells #[.string m, .string t, .int .i64 mi, .slice aP nP cP, .slice aB nb cB, .bool cl] 27) = w8 := ⟨_, rfl⟩
      have HU8 := Hid.of (show Up w w8 by rw [← hw8]; exact HU7.out.alloc _)
      have HP8 := Hid.of (show At w8 w7.heap.size 27 [.string m, .string t, .int .i64 mi, .slice aP nP cP, .slice aB nb cB, .bool cl] by rw [← hw8]; exact at_new w7 27 [.string m, .string t, .int .i64 mi, .slice aP nP cP, .slice aB nb cB, .bool cl])
      have Hu8 := Hid.of (show Up w7 w8 by rw [← hw8]; exact (Up.refl w7).alloc _)
      have HR8 := Hid.of (HR7.out.up Hu8.out)
      have HQ8 := Hid.of (HQ7.out.up Hu8.out)
      have Hk8 := Hid.of (Hk7.out.trans Hu8.out)
      have HW8 := Hid.of hw8
      have HFp := Hid.of (fun (w2 : World) (hu : Up w8 w2) => FdO.fdl (ow_up HF7.out (Hu8.out.trans hu)))
      clear hw8
      have hcv1 := conv_sb2 (Ow.sb (ow_up HB7.out Hu8.out))
      have hcv2 := conv_sb2 ((HBr.out w8 Hk8.out))
      have p0 := HP8.out.cell (i := 0) rfl
      have p1 := HP8.out.cell (i := 1) rfl
      have p2 := HP8.out.cell (i := 2) rfl
      have p4 := HP8.out.cell (i := 4) rfl
      have q0 := HQ8.out.cell (i := 0) rfl
      have q1 := HQ8.out.cell (i := 1) rfl
      have q2 := HQ8.out.cell (i := 2) rfl
      have r4 := HR8.out.cell (i := 4) rfl
      rw [← HW8.out] at p0 p1 p2 p4 q0 q1 q2 r4 hcv1 hcv2
      go_wp2
      change Code.wp _ _ _ _ (w7.alloc (.cells #[.string m, .string t, .int .i64 mi, .slice aP nP cP, .slice aB nb cB, .bool cl] 27))
      rw [HW8.out]
      clear p0 p1 p2 p4 q0 q1 q2 r4 hcv1 hcv2 HW8
      have HTd := Hid.of (fun (w2 : World) (hu : Up w6 w2) => told_walk aF F cF (-1) w2 (HF6.out.up hu) (HW.out.up (HU6.out.trans hu)).gn (by omega) (by omega) (by omega))
      rw [HNF.out, HTF.out, HNPx.out] at HTd
      refine wp_region_held_drew (S := fun w2 => At w2 w7.heap.size 27 [.string m, .string t, .int .i64 mi, .slice aP nP cP, .slice aB nb cB, .bool cl] ∧ At w2 w4.heap.size 27 [.string m, .string t, .int .i64 mi, .slice aF nF cF, .slice aR nb cR, .bool false] ∧ Up w w2) (by kernel_rfl) ⟨HP8.out.up (Up.refl _).drew, HR8.out.up (Up.refl _).drew, HU8.out.drew⟩ (fun hS => ?_)
      refine wpAnyH_take (i := 0) (oi := { dst := some 81, op := Go.Op.fieldAddr 27 (Go.Operand.tmp 11) 3, type := 0, pos := "outright.go:106", after := #[], guard := none }) (v := .pointer (some ⟨w7.heap.size, 3, none⟩)) rfl (by kernel_rfl) (by kernel_rfl) (by kernel_rfl) (fun _ _ _ h => h) (Or.inl ⟨by kernel_rfl, ?_⟩) hS ?_
      · intro w5 hSw
        clear hSw hS
        go_simp
      simp only [Act.put, List.setIfInBounds_toArray, List.set_cons_zero, List.set_cons_succ]
      refine wpAnyH_take (i := 1) (oi := { dst := some 82, op := Go.Op.load 25 (Go.Operand.tmp 81), type := 25, pos := "outright.go:106", after := #[{ on := 0, ground := Go.Ground.data }], guard := none }) (v := .slice aP nP cP) rfl (by kernel_rfl) (by kernel_rfl) (by kernel_rfl) (fun _ _ _ h => h) (Or.inl ⟨by kernel_rfl, ?_⟩) hS ?_
      · intro w5 hSw
        have h0 := hSw.1.cell (i := 3) rfl
        clear hSw hS
        go_simp
      simp only [Act.put, List.setIfInBounds_toArray, List.set_cons_zero, List.set_cons_succ]
      refine wpAnyH_take (i := 2) (oi := { dst := some 83, op := Go.Op.fieldAddr 27 (Go.Operand.tmp 7) 3, type := 0, pos := "outright.go:106", after := #[], guard := none }) (v := .pointer (some ⟨w4.heap.size, 3, none⟩)) rfl (by kernel_rfl) (by kernel_rfl) (by kernel_rfl) (fun _ _ _ h => h) (Or.inl ⟨by kernel_rfl, ?_⟩) hS ?_
      · intro w5 hSw
        clear hSw hS
        go_simp
      simp only [Act.put, List.setIfInBounds_toArray, List.set_cons_zero, List.set_cons_succ]
      refine wpAnyH_take (i := 3) (oi := { dst := some 84, op := Go.Op.load 25 (Go.Operand.tmp 83), type := 25, pos := "outright.go:106", after := #[{ on := 2, ground := Go.Ground.data }], guard := none }) (v := .slice aF nF cF) rfl (by kernel_rfl) (by kernel_rfl) (by kernel_rfl) (fun _ _ _ h => h) (Or.inl ⟨by kernel_rfl, ?_⟩) hS ?_
      · intro w5 hSw
        have h0 := hSw.2.1.cell (i := 3) rfl
        clear hSw hS
        go_simp
      simp only [Act.put, List.setIfInBounds_toArray, List.set_cons_zero, List.set_cons_succ]
      refine wpAnyH_take (i := 4) (oi := { dst := some 85, op := Go.Op.move (Go.Operand.tmp 10), type := 3, pos := "outright.go:106", after := #[], guard := none }) (v := .int .i64 (-1)) rfl (by kernel_rfl) (by kernel_rfl) (by kernel_rfl) (fun _ _ _ h => h) (Or.inl ⟨by kernel_rfl, ?_⟩) hS ?_
      · intro w5 hSw
        clear hSw hS
        go_simp
      simp only [Act.put, List.setIfInBounds_toArray, List.set_cons_zero, List.set_cons_succ]
      refine wpAnyH_ready (rs := [5]) (by kernel_rfl) (by simp) ?_
      refine AllReadyH.cons (o := { dst := some 86, op := Go.Op.call { callee := Go.Callee.value (Go.Operand.func 23), args := #[Go.Operand.tmp 84, Go.Operand.tmp 85], argTypes := #[25, 3] }, type := 25, pos := "outright.go:106", after := #[{ on := 3, ground := Go.Ground.data }, { on := 4, ground := Go.Ground.data }], guard := none }) rfl (fun K hK => ?_) AllReadyH.nil
      rw [if_pos (by kernel_rfl)]
      go_simp
      refine (HTd.out w8.drew (Hk8.out.drew)).mono ?_
      rintro e w9 ⟨⟨a9, c9, rfl, hO9⟩, h9⟩
      have HU9 := Hid.of (HU8.out.drew.trans h9)
      have Hk9 := Hid.of (Hk8.out.drew.trans h9)
      have HT9 := Hid.of (FdO.fdl hO9.out)
      have Hu9 := Hid.of h9
      have Hv9 := Hid.of ((Up.refl w8).drew.trans h9)
      clear h9 hO9
      dsimp only
      refine hK.out _ _ ⟨hS.1.up Hu9.out, hS.2.1.up Hu9.out, HU9.out⟩ (fun hS => ?_)
      clear hK K
      refine wpAnyH_ready (rs := [6]) (by kernel_rfl) (by simp) ?_
      refine AllReadyH.cons (o := { dst := some 87, op := Go.Op.call { callee := Go.Callee.value (Go.Operand.func 15), args := #[Go.Operand.tmp 82, Go.Operand.tmp 86], argTypes := #[25, 25] }, type := 4, pos := "outright.go:106", after := #[{ on := 1, ground := Go.Ground.data }, { on := 5, ground := Go.Ground.data }, { on := 5, ground := Go.Ground.chain }], guard := none }) rfl (fun K hK => ?_) AllReadyH.nil
      rw [if_pos (by kernel_rfl)]
      go_simp
      refine (alike_same aP a9 FF cP c9 nP HNPx.out (by omega) w9 (HFp.out w9 Hv9.out) HT9.out).mono ?_
      rintro e w10 ⟨rfl, h9⟩
      have HU10 := Hid.of (HU9.out.trans h9)
      have Hk10 := Hid.of (Hk9.out.trans h9)
      have Hv10 := Hid.of (Hv9.out.trans h9)
      dsimp only
      refine hK.out _ _ ⟨hS.1.up h9, hS.2.1.up h9, HU10.out⟩ (fun hS => ?_)
      clear hK K h9
      refine wpAnyH_take (i := 7) (oi := { dst := some 88, op := Go.Op.unOp Go.UnOp.not 4 (Go.Operand.tmp 87), type := 4, pos := "outright.go:106", after := #[{ on := 6, ground := Go.Ground.data }], guard := none }) (v := .bool false) rfl (by kernel_rfl) (by kernel_rfl) (by kernel_rfl) (fun _ _ _ h => h) (Or.inl ⟨by kernel_rfl, ?_⟩) hS ?_
      · intro w5 hSw
        clear hSw hS
        go_simp
      simp only [Act.put, List.setIfInBounds_toArray, List.set_cons_zero, List.set_cons_succ]
      refine wpAnyH_take (i := 8) (oi := { dst := some 89, op := Go.Op.move (Go.Operand.tmp 88), type := 4, pos := "outright.go:106", after := #[{ on := 7, ground := Go.Ground.data }, { on := 6, ground := Go.Ground.chain }], guard := none }) (v := .bool false) rfl (by kernel_rfl) (by kernel_rfl) (by kernel_rfl) (fun _ _ _ h => h) (Or.inl ⟨by kernel_rfl, ?_⟩) hS ?_
      · intro w5 hSw
        clear hSw hS
        go_simp
      simp only [Act.put, List.setIfInBounds_toArray, List.set_cons_zero, List.set_cons_succ]
      refine wpAnyH_take (i := 9) (oi := { dst := some 90, op := Go.Op.move (Go.Operand.tmp 8), type := 22, pos := "outright.go:106", after := #[{ on := 8, ground := Go.Ground.guard }], guard := some (8, false) }) (v := .slice a8 L c8) rfl (by kernel_rfl) (by kernel_rfl) (by kernel_rfl) (fun _ _ _ h => h) (Or.inl ⟨by kernel_rfl, ?_⟩) hS ?_
      · intro w5 hSw
        clear hSw hS
        go_simp
      simp only [Act.put, List.setIfInBounds_toArray, List.set_cons_zero, List.set_cons_succ]
      refine wpAnyH_take (i := 10) (oi := { dst := some 91, op := Go.Op.move (Go.Operand.tmp 2), type := 3, pos := "outright.go:106", after := #[{ on := 8, ground := Go.Ground.guard }], guard := some (8, false) }) (v := .int .i64 at') rfl (by kernel_rfl) (by kernel_rfl) (by kernel_rfl) (fun _ _ _ h => h) (Or.inl ⟨by kernel_rfl, ?_⟩) hS ?_
      · intro w5 hSw
        clear hSw hS
        go_simp
      simp only [Act.put, List.setIfInBounds_toArray, List.set_cons_zero, List.set_cons_succ]
      refine wpAnyH_ready (rs := [11]) (by kernel_rfl) (by simp) ?_
      refine AllReadyH.cons (o := { dst := some 92, op := Go.Op.call { callee := Go.Callee.value (Go.Operand.func 24), args := #[Go.Operand.tmp 90, Go.Operand.tmp 91], argTypes := #[22, 3] }, type := 4, pos := "outright.go:106", after := #[{ on := 9, ground := Go.Ground.data }, { on := 10, ground := Go.Ground.data }, { on := 8, ground := Go.Ground.chain }, { on := 8, ground := Go.Ground.guard }], guard := some (8, false) }) rfl (fun K hK => ?_) AllReadyH.nil
      rw [if_pos (by kernel_rfl)]
      go_simp
      refine (HSh.out w10 Hk10.out).mono ?_
      rintro e w11 ⟨rfl, h9⟩
      have HU11 := Hid.of (HU10.out.trans h9)
      have Hk11 := Hid.of (Hk10.out.trans h9)
      have Hv11 := Hid.of (Hv10.out.trans h9)
      dsimp only
      have HP11 := Hid.of (hS.1.up h9)
      refine hK.out _ _ ⟨hS.1.up h9, hS.2.1.up h9, HU11.out⟩ (fun hS => ?_)
      clear hK K h9
      refine wpAnyH_take (i := 12) (oi := { dst := some 93, op := Go.Op.unOp Go.UnOp.not 4 (Go.Operand.tmp 92), type := 4, pos := "outright.go:106", after := #[{ on := 11, ground := Go.Ground.data }, { on := 8, ground := Go.Ground.guard }], guard := some (8, false) }) (v := .bool false) rfl (by kernel_rfl) (by kernel_rfl) (by kernel_rfl) (fun _ _ _ h => h) (Or.inl ⟨by kernel_rfl, ?_⟩) hS ?_
      · intro w5 hSw
        clear hSw hS
        go_simp
      simp only [Act.put, List.setIfInBounds_toArray, List.set_cons_zero, List.set_cons_succ]
      refine wpAnyH_take (i := 13) (oi := { dst := some 94, op := Go.Op.pick (Go.Operand.tmp 89) (Go.Operand.const (Go.Value.bool true)) (Go.Operand.tmp 93), type := 4, pos := "outright.go:106", after := #[{ on := 8, ground := Go.Ground.data }, { on := 12, ground := Go.Ground.data }], guard := none }) (v := .bool false) rfl (by kernel_rfl) (by kernel_rfl) (by kernel_rfl) (fun _ _ _ h => h) (Or.inl ⟨by kernel_rfl, ?_⟩) hS ?_
      · intro w5 hSw
        clear hSw hS
        go_simp
      simp only [Act.put, List.setIfInBounds_toArray, List.set_cons_zero, List.set_cons_succ]
      clear hS
      refine wpAnyH_done (by kernel_rfl) ?_ _
      go_wp2_with (with_reducible show wpList _ _ _ ({ dst := _, op := Op.call { callee := Callee.builtin Builtin.append, args := _, argTypes := _ }, type := _, pos := _, after := _, guard := _ } :: _) _ _; refine Shut.out ?_)
      show wpList _ _ _ _ _ _
      have HO11 := Hid.of (ow_up HO8.out Hk11.out)
      have HO11' := Hid.of (show w11.ownsRow w5.heap.size 5 1 (.slice a8 L c8) L (cb l) by have h1 := HO11.out; unfold Ow at h1; rw [HL.out] at h1; exact h1)
      refine wpList_appSb2 (N := w5.heap.size) rfl _ _ rfl a8 c8 l _ tl rfl rfl (HT.out.up HU11.out) HO11'.out (Hk6.out.trans Hk11.out).size (by omega) ?_
      intro a12 c12 w12 o12 u12 g12
      have HU12 := Hid.of (HU5.out.trans (u12 w5 (Hk6.out.trans Hk11.out) (Nat.le_refl _)))
      have HP12 := Hid.of (HP11.out.by g12 (own_ne HO11'.out HP11.out (by decide)))
      have HF12 := Hid.of (FdO.fdl (show FdO w12 w6.heap.size aP FF cP from World.ownsRow.kept (ow_up HF7.out (Hu8.out.trans Hv11.out)) g12 (own_off (ow_up HF7.out (Hu8.out.trans Hv11.out)) HO11'.out (by decide))))
      have HB12 := Hid.of (show Sb w12 (.slice aB nb cB) bd from Ow.sb (B := w6.heap.size) (World.ownsRow.kept (ow_up HB7.out (Hu8.out.trans Hv11.out)) g12 (by
        cases hv : (Value.slice aB nb cB).ownBlock with
        | none => exact .inl rfl
        | some g =>
          refine .inr (fun e => ?_)
          have h1 := (World.ownsRow.lt HB7.out g hv).1
          have h2 := (World.ownsRow.lt HO8.out g e.symm).2
          omega)))
      have HS12 := Hid.of (show Sb w12 (.slice a12 (L + tl.length) c12) (l ++ tl) from Ow.sb (B := w5.heap.size) (by
        unfold Ow
        rw [List.length_append, HL.out]
        exact o12))
      clear o12 u12 g12
      simp only [Act.put, List.setIfInBounds_toArray, List.set_cons_zero, List.set_cons_succ]
      go_wp2_with fail
      refine (padded_walk (.slice a12 (L + tl.length) c12) (l ++ tl) 0 (by rw [List.length_append, HL.out]; omega) w12 HS12.out).mono ?_
      rintro e w13 ⟨v13, rfl, hO13, h9⟩
      have hpd : pdd (l ++ tl) 0 = l ++ tl := by unfold pdd; simp
      rw [hpd] at hO13
      obtain ⟨a13, c13, rfl⟩ := row_len hO13
      have HS13 := Hid.of (Ow.sb hO13)
      have HU13 := Hid.of (HU12.out.trans h9)
      have Hk13 := Hid.of h9
      have hl13 : (l ++ tl).length ≤ 1099511627776 := by rw [List.length_append, HL.out]; omega
      clear h9 hO13 hpd
      generalize hN13 : (l ++ tl).length = N13 at HS13 hl13 ⊢
      clear hN13
      dsimp only
      go_wp2_with fail
      refine (ParseRequest_walk ad hl13 w13 HS13.out (HW.out.up HU13.out)).mono ?_
      rintro e w14 ⟨hR14, h9⟩
      rw [HPt.out] at hR14
      obtain ⟨aS, cS, vS, rfl, hO14⟩ := hR14
      obtain ⟨aC, cC, rfl⟩ := row_len hO14.out.2
      have HU14 := Hid.of (HU13.out.trans h9)
      have Hk14 := Hid.of (Hk13.out.trans h9)
      have HG14 := Hid.of (FdO.fdl hO14.out.1)
      have HC14 := Hid.of (Ow.sb hO14.out.2)
      clear h9 hO14
      unfold rqV
      dsimp only at HG14 HC14 ⊢
      rw [vs_data', vs_data', HNPx.out, HBn.out, HCl.out]
      rw [HBn.out] at HC14
      obtain ⟨w15, hw15⟩ : ∃ w15, w14.alloc (.cells #[.string m, .string t, .int .i64 mi, .slice aS nP cS, .slice aC nb cC, .bool cl] 27) = w15 := ⟨_, rfl⟩
      have HU15 := Hid.of (show Up w w15 by rw [← hw15]; exact HU14.out.alloc _)
      have HS15 := Hid.of (show At w15 w14.heap.size 27 [.string m, .string t, .int .i64 mi, .slice aS nP cS, .slice aC nb cC, .bool cl] by rw [← hw15]; exact at_new w14 27 [.string m, .string t, .int .i64 mi, .slice aS nP cS, .slice aC nb cC, .bool cl])
      have Hu15 := Hid.of (show Up w14 w15 by rw [← hw15]; exact (Up.refl w14).alloc _)
      have HP15 := Hid.of (HP12.out.up (Hk14.out.trans Hu15.out))
      have HF15 := Hid.of (HF12.out.up (Hk14.out.trans Hu15.out))
      have HB15 := Hid.of (HB12.out.up (Hk14.out.trans Hu15.out))
      have HG15 := Hid.of (HG14.out.up Hu15.out)
      have HC15 := Hid.of (HC14.out.up Hu15.out)
      have HW15 := Hid.of hw15
      clear hw15
      have y1 : ((L : Int) == (L : Int)) = true := by simp
      have HTw := Hid.of (twins_same m t mi FF nP cl aS aP cS cP (.slice aC nb cC) (.slice aB nb cB) bd HNPx.out (by omega) w15 HG15.out HF15.out HC15.out HB15.out)
      go_wp2_with (with_reducible show wpList _ _ _ ({ dst := _, op := Op.load 27 _, type := _, pos := _, after := _, guard := _ } :: _) _ _; refine Shut.out ?_)
      show wpList _ _ _ _ _ _
      change wpList _ _ _ _ _ (w14.alloc (.cells #[.string m, .string t, .int .i64 mi, .slice aS nP cS, .slice aC nb cC, .bool cl] 27))
      rw [HW15.out]
      refine wpList_valG (.agg ([.string m, .string t, .int .i64 mi, .slice aS nP cS, .slice aC nb cC, .bool cl] : List Value).toArray) (by kernel_rfl) (exec_load6 rfl rfl HS15.out.range) ?_
      simp only [Act.put, List.setIfInBounds_toArray, List.set_cons_zero, List.set_cons_succ]
      go_wp2_with (with_reducible show wpList _ _ _ ({ dst := _, op := Op.load 27 _, type := _, pos := _, after := _, guard := _ } :: _) _ _; refine Shut.out ?_)
      show wpList _ _ _ _ _ _
      refine wpList_valG (.agg ([.string m, .string t, .int .i64 mi, .slice aP nP cP, .slice aB nb cB, .bool cl] : List Value).toArray) (by kernel_rfl) (exec_load6 rfl rfl HP15.out.range) ?_
      simp only [Act.put, List.setIfInBounds_toArray, List.set_cons_zero, List.set_cons_succ]
      go_wp2_with fail
      refine HTw.out.mono ?_
      rintro e wk ⟨rfl, uk⟩
      have HUk := Hid.of (HU15.out.trans uk)
      clear uk
      dsimp only
      go_wp2
      go_ret
      exact ⟨rfl, HUk.out⟩
    · have hb0z : ((nb : Int) == 0) = false := by rw [beq_eq_false_iff_ne]; omega
      have HTF := Hid.of (show tld F (nb : Int) = FF by have h1 := tld_frF F bd.length; rw [HBn.out, if_neg hb0, ← HBn.out, HFF.out, HBn.out] at h1; exact h1)
      clear hb0
      go_wp2_with fail
      refine (ParseRequest_walk ad hL40 w6 HS8.out (HW.out.up HU6.out)).mono ?_
      rintro e w7 ⟨hR7, h9⟩
      rw [HP0.out] at hR7
      obtain ⟨aP, cP, vP, rfl, hO7⟩ := hR7
      have HU7 := Hid.of (HU6.out.trans h9)
      have Hk7 := Hid.of h9
      have HR7 := Hid.of (HR6.out.up h9)
      have HQ7 := Hid.of (HQ6.out.up h9)
      obtain ⟨aB, cB, rfl⟩ := row_len hO7.out.2
      have HF7 := Hid.of hO7.out.1
      have HB7 := Hid.of hO7.out.2
      clear hO7 h9
      unfold rqV
      dsimp only at HF7 HB7 ⊢
      rw [vs_data', vs_data', HNPx.out, HBn.out]
      rw [HBn.out] at HB7
      obtain ⟨cl, hcl⟩ : ∃ cl, cls (mi == 0) FF = cl := ⟨_, rfl⟩
      have HCl := Hid.of hcl
      rw [hcl]
      clear hcl
      obtain ⟨w8, hw8⟩ : ∃ w8, w7.alloc (.cells #[.string m, .string t, .int .i64 mi, .slice aP nP cP, .slice aB nb cB, .bool cl] 27) = w8 := ⟨_, rfl⟩
      have HU8 := Hid.of (show Up w w8 by rw [← hw8]; exact HU7.out.alloc _)
      have HP8 := Hid.of (show At w8 w7.heap.size 27 [.string m, .string t, .int .i64 mi, .slice aP nP cP, .slice aB nb cB, .bool cl] by rw [← hw8]; exact at_new w7 27 [.string m, .string t, .int .i64 mi, .slice aP nP cP, .slice aB nb cB, .bool cl])
      have Hu8 := Hid.of (show Up w7 w8 by rw [← hw8]; exact (Up.refl w7).alloc _)
      have HR8 := Hid.of (HR7.out.up Hu8.out)
      have HQ8 := Hid.of (HQ7.out.up Hu8.out)
      have Hk8 := Hid.of (Hk7.out.trans Hu8.out)
      have HW8 := Hid.of hw8
      have HFp := Hid.of (fun (w2 : World) (hu : Up w8 w2) => FdO.fdl (ow_up HF7.out (Hu8.out.trans hu)))
      clear hw8
      have hcv1 := conv_sb2 (Ow.sb (ow_up HB7.out Hu8.out))
      have hcv2 := conv_sb2 ((HBr.out w8 Hk8.out))
      have p0 := HP8.out.cell (i := 0) rfl
      have p1 := HP8.out.cell (i := 1) rfl
      have p2 := HP8.out.cell (i := 2) rfl
      have p4 := HP8.out.cell (i := 4) rfl
      have q0 := HQ8.out.cell (i := 0) rfl
      have q1 := HQ8.out.cell (i := 1) rfl
      have q2 := HQ8.out.cell (i := 2) rfl
      have r4 := HR8.out.cell (i := 4) rfl
      rw [← HW8.out] at p0 p1 p2 p4 q0 q1 q2 r4 hcv1 hcv2
      go_wp2
      change Code.wp _ _ _ _ (w7.alloc (.cells #[.string m, .string t, .int .i64 mi, .slice aP nP cP, .slice aB nb cB, .bool cl] 27))
      rw [HW8.out]
      clear p0 p1 p2 p4 q0 q1 q2 r4 hcv1 hcv2 HW8
      have HTd := Hid.of (fun (w2 : World) (hu : Up w6 w2) => told_walk aF F cF (nb : Int) w2 (HF6.out.up hu) (HW.out.up (HU6.out.trans hu)).gn (by omega) (by omega) (by omega))
      rw [HNF.out, HTF.out, HNPx.out] at HTd
      refine wp_region_held_drew (S := fun w2 => At w2 w7.heap.size 27 [.string m, .string t, .int .i64 mi, .slice aP nP cP, .slice aB nb cB, .bool cl] ∧ At w2 w4.heap.size 27 [.string m, .string t, .int .i64 mi, .slice aF nF cF, .slice aR nb cR, .bool false] ∧ Up w w2) (by kernel_rfl) ⟨HP8.out.up (Up.refl _).drew, HR8.out.up (Up.refl _).drew, HU8.out.drew⟩ (fun hS => ?_)
      refine wpAnyH_take (i := 0) (oi := { dst := some 81, op := Go.Op.fieldAddr 27 (Go.Operand.tmp 11) 3, type := 0, pos := "outright.go:106", after := #[], guard := none }) (v := .pointer (some ⟨w7.heap.size, 3, none⟩)) rfl (by kernel_rfl) (by kernel_rfl) (by kernel_rfl) (fun _ _ _ h => h) (Or.inl ⟨by kernel_rfl, ?_⟩) hS ?_
      · intro w5 hSw
        clear hSw hS
        go_simp
      simp only [Act.put, List.setIfInBounds_toArray, List.set_cons_zero, List.set_cons_succ]
      refine wpAnyH_take (i := 1) (oi := { dst := some 82, op := Go.Op.load 25 (Go.Operand.tmp 81), type := 25, pos := "outright.go:106", after := #[{ on := 0, ground := Go.Ground.data }], guard := none }) (v := .slice aP nP cP) rfl (by kernel_rfl) (by kernel_rfl) (by kernel_rfl) (fun _ _ _ h => h) (Or.inl ⟨by kernel_rfl, ?_⟩) hS ?_
      · intro w5 hSw
        have h0 := hSw.1.cell (i := 3) rfl
        clear hSw hS
        go_simp
      simp only [Act.put, List.setIfInBounds_toArray, List.set_cons_zero, List.set_cons_succ]
      refine wpAnyH_take (i := 2) (oi := { dst := some 83, op := Go.Op.fieldAddr 27 (Go.Operand.tmp 7) 3, type := 0, pos := "outright.go:106", after := #[], guard := none }) (v := .pointer (some ⟨w4.heap.size, 3, none⟩)) rfl (by kernel_rfl) (by kernel_rfl) (by kernel_rfl) (fun _ _ _ h => h) (Or.inl ⟨by kernel_rfl, ?_⟩) hS ?_
      · intro w5 hSw
        clear hSw hS
        go_simp
      simp only [Act.put, List.setIfInBounds_toArray, List.set_cons_zero, List.set_cons_succ]
      refine wpAnyH_take (i := 3) (oi := { dst := some 84, op := Go.Op.load 25 (Go.Operand.tmp 83), type := 25, pos := "outright.go:106", after := #[{ on := 2, ground := Go.Ground.data }], guard := none }) (v := .slice aF nF cF) rfl (by kernel_rfl) (by kernel_rfl) (by kernel_rfl) (fun _ _ _ h => h) (Or.inl ⟨by kernel_rfl, ?_⟩) hS ?_
      · intro w5 hSw
        have h0 := hSw.2.1.cell (i := 3) rfl
        clear hSw hS
        go_simp
      simp only [Act.put, List.setIfInBounds_toArray, List.set_cons_zero, List.set_cons_succ]
      refine wpAnyH_take (i := 4) (oi := { dst := some 85, op := Go.Op.move (Go.Operand.tmp 10), type := 3, pos := "outright.go:106", after := #[], guard := none }) (v := .int .i64 (nb : Int)) rfl (by kernel_rfl) (by kernel_rfl) (by kernel_rfl) (fun _ _ _ h => h) (Or.inl ⟨by kernel_rfl, ?_⟩) hS ?_
      · intro w5 hSw
        clear hSw hS
        go_simp
      simp only [Act.put, List.setIfInBounds_toArray, List.set_cons_zero, List.set_cons_succ]
      refine wpAnyH_ready (rs := [5]) (by kernel_rfl) (by simp) ?_
      refine AllReadyH.cons (o := { dst := some 86, op := Go.Op.call { callee := Go.Callee.value (Go.Operand.func 23), args := #[Go.Operand.tmp 84, Go.Operand.tmp 85], argTypes := #[25, 3] }, type := 25, pos := "outright.go:106", after := #[{ on := 3, ground := Go.Ground.data }, { on := 4, ground := Go.Ground.data }], guard := none }) rfl (fun K hK => ?_) AllReadyH.nil
      rw [if_pos (by kernel_rfl)]
      go_simp
      refine (HTd.out w8.drew (Hk8.out.drew)).mono ?_
      rintro e w9 ⟨⟨a9, c9, rfl, hO9⟩, h9⟩
      have HU9 := Hid.of (HU8.out.drew.trans h9)
      have Hk9 := Hid.of (Hk8.out.drew.trans h9)
      have HT9 := Hid.of (FdO.fdl hO9.out)
      have Hu9 := Hid.of h9
      have Hv9 := Hid.of ((Up.refl w8).drew.trans h9)
      clear h9 hO9
      dsimp only
      refine hK.out _ _ ⟨hS.1.up Hu9.out, hS.2.1.up Hu9.out, HU9.out⟩ (fun hS => ?_)
      clear hK K
      refine wpAnyH_ready (rs := [6]) (by kernel_rfl) (by simp) ?_
      refine AllReadyH.cons (o := { dst := some 87, op := Go.Op.call { callee := Go.Callee.value (Go.Operand.func 15), args := #[Go.Operand.tmp 82, Go.Operand.tmp 86], argTypes := #[25, 25] }, type := 4, pos := "outright.go:106", after := #[{ on := 1, ground := Go.Ground.data }, { on := 5, ground := Go.Ground.data }, { on := 5, ground := Go.Ground.chain }], guard := none }) rfl (fun K hK => ?_) AllReadyH.nil
      rw [if_pos (by kernel_rfl)]
      go_simp
      refine (alike_same aP a9 FF cP c9 nP HNPx.out (by omega) w9 (HFp.out w9 Hv9.out) HT9.out).mono ?_
      rintro e w10 ⟨rfl, h9⟩
      have HU10 := Hid.of (HU9.out.trans h9)
      have Hk10 := Hid.of (Hk9.out.trans h9)
      have Hv10 := Hid.of (Hv9.out.trans h9)
      dsimp only
      refine hK.out _ _ ⟨hS.1.up h9, hS.2.1.up h9, HU10.out⟩ (fun hS => ?_)
      clear hK K h9
      refine wpAnyH_take (i := 7) (oi := { dst := some 88, op := Go.Op.unOp Go.UnOp.not 4 (Go.Operand.tmp 87), type := 4, pos := "outright.go:106", after := #[{ on := 6, ground := Go.Ground.data }], guard := none }) (v := .bool false) rfl (by kernel_rfl) (by kernel_rfl) (by kernel_rfl) (fun _ _ _ h => h) (Or.inl ⟨by kernel_rfl, ?_⟩) hS ?_
      · intro w5 hSw
        clear hSw hS
        go_simp
      simp only [Act.put, List.setIfInBounds_toArray, List.set_cons_zero, List.set_cons_succ]
      refine wpAnyH_take (i := 8) (oi := { dst := some 89, op := Go.Op.move (Go.Operand.tmp 88), type := 4, pos := "outright.go:106", after := #[{ on := 7, ground := Go.Ground.data }, { on := 6, ground := Go.Ground.chain }], guard := none }) (v := .bool false) rfl (by kernel_rfl) (by kernel_rfl) (by kernel_rfl) (fun _ _ _ h => h) (Or.inl ⟨by kernel_rfl, ?_⟩) hS ?_
      · intro w5 hSw
        clear hSw hS
        go_simp
      simp only [Act.put, List.setIfInBounds_toArray, List.set_cons_zero, List.set_cons_succ]
      refine wpAnyH_take (i := 9) (oi := { dst := some 90, op := Go.Op.move (Go.Operand.tmp 8), type := 22, pos := "outright.go:106", after := #[{ on := 8, ground := Go.Ground.guard }], guard := some (8, false) }) (v := .slice a8 L c8) rfl (by kernel_rfl) (by kernel_rfl) (by kernel_rfl) (fun _ _ _ h => h) (Or.inl ⟨by kernel_rfl, ?_⟩) hS ?_
      · intro w5 hSw
        clear hSw hS
        go_simp
      simp only [Act.put, List.setIfInBounds_toArray, List.set_cons_zero, List.set_cons_succ]
      refine wpAnyH_take (i := 10) (oi := { dst := some 91, op := Go.Op.move (Go.Operand.tmp 2), type := 3, pos := "outright.go:106", after := #[{ on := 8, ground := Go.Ground.guard }], guard := some (8, false) }) (v := .int .i64 at') rfl (by kernel_rfl) (by kernel_rfl) (by kernel_rfl) (fun _ _ _ h => h) (Or.inl ⟨by kernel_rfl, ?_⟩) hS ?_
      · intro w5 hSw
        clear hSw hS
        go_simp
      simp only [Act.put, List.setIfInBounds_toArray, List.set_cons_zero, List.set_cons_succ]
      refine wpAnyH_ready (rs := [11]) (by kernel_rfl) (by simp) ?_
      refine AllReadyH.cons (o := { dst := some 92, op := Go.Op.call { callee := Go.Callee.value (Go.Operand.func 24), args := #[Go.Operand.tmp 90, Go.Operand.tmp 91], argTypes := #[22, 3] }, type := 4, pos := "outright.go:106", after := #[{ on := 9, ground := Go.Ground.data }, { on := 10, ground := Go.Ground.data }, { on := 8, ground := Go.Ground.chain }, { on := 8, ground := Go.Ground.guard }], guard := some (8, false) }) rfl (fun K hK => ?_) AllReadyH.nil
      rw [if_pos (by kernel_rfl)]
      go_simp
      refine (HSh.out w10 Hk10.out).mono ?_
      rintro e w11 ⟨rfl, h9⟩
      have HU11 := Hid.of (HU10.out.trans h9)
      have Hk11 := Hid.of (Hk10.out.trans h9)
      have Hv11 := Hid.of (Hv10.out.trans h9)
      dsimp only
      have HP11 := Hid.of (hS.1.up h9)
      refine hK.out _ _ ⟨hS.1.up h9, hS.2.1.up h9, HU11.out⟩ (fun hS => ?_)
      clear hK K h9
      refine wpAnyH_take (i := 12) (oi := { dst := some 93, op := Go.Op.unOp Go.UnOp.not 4 (Go.Operand.tmp 92), type := 4, pos := "outright.go:106", after := #[{ on := 11, ground := Go.Ground.data }, { on := 8, ground := Go.Ground.guard }], guard := some (8, false) }) (v := .bool false) rfl (by kernel_rfl) (by kernel_rfl) (by kernel_rfl) (fun _ _ _ h => h) (Or.inl ⟨by kernel_rfl, ?_⟩) hS ?_
      · intro w5 hSw
        clear hSw hS
        go_simp
      simp only [Act.put, List.setIfInBounds_toArray, List.set_cons_zero, List.set_cons_succ]
      refine wpAnyH_take (i := 13) (oi := { dst := some 94, op := Go.Op.pick (Go.Operand.tmp 89) (Go.Operand.const (Go.Value.bool true)) (Go.Operand.tmp 93), type := 4, pos := "outright.go:106", after := #[{ on := 8, ground := Go.Ground.data }, { on := 12, ground := Go.Ground.data }], guard := none }) (v := .bool false) rfl (by kernel_rfl) (by kernel_rfl) (by kernel_rfl) (fun _ _ _ h => h) (Or.inl ⟨by kernel_rfl, ?_⟩) hS ?_
      · intro w5 hSw
        clear hSw hS
        go_simp
      simp only [Act.put, List.setIfInBounds_toArray, List.set_cons_zero, List.set_cons_succ]
      clear hS
      refine wpAnyH_done (by kernel_rfl) ?_ _
      go_wp2_with (with_reducible show wpList _ _ _ ({ dst := _, op := Op.call { callee := Callee.builtin Builtin.append, args := _, argTypes := _ }, type := _, pos := _, after := _, guard := _ } :: _) _ _; refine Shut.out ?_)
      show wpList _ _ _ _ _ _
      have HO11 := Hid.of (ow_up HO8.out Hk11.out)
      have HO11' := Hid.of (show w11.ownsRow w5.heap.size 5 1 (.slice a8 L c8) L (cb l) by have h1 := HO11.out; unfold Ow at h1; rw [HL.out] at h1; exact h1)
      refine wpList_appSb2 (N := w5.heap.size) rfl _ _ rfl a8 c8 l _ tl rfl rfl (HT.out.up HU11.out) HO11'.out (Hk6.out.trans Hk11.out).size (by omega) ?_
      intro a12 c12 w12 o12 u12 g12
      have HU12 := Hid.of (HU5.out.trans (u12 w5 (Hk6.out.trans Hk11.out) (Nat.le_refl _)))
      have HP12 := Hid.of (HP11.out.by g12 (own_ne HO11'.out HP11.out (by decide)))
      have HF12 := Hid.of (FdO.fdl (show FdO w12 w6.heap.size aP FF cP from World.ownsRow.kept (ow_up HF7.out (Hu8.out.trans Hv11.out)) g12 (own_off (ow_up HF7.out (Hu8.out.trans Hv11.out)) HO11'.out (by decide))))
      have HB12 := Hid.of (show Sb w12 (.slice aB nb cB) bd from Ow.sb (B := w6.heap.size) (World.ownsRow.kept (ow_up HB7.out (Hu8.out.trans Hv11.out)) g12 (by
        cases hv : (Value.slice aB nb cB).ownBlock with
        | none => exact .inl rfl
        | some g =>
          refine .inr (fun e => ?_)
          have h1 := (World.ownsRow.lt HB7.out g hv).1
          have h2 := (World.ownsRow.lt HO8.out g e.symm).2
          omega)))
      have HS12 := Hid.of (show Sb w12 (.slice a12 (L + tl.length) c12) (l ++ tl) from Ow.sb (B := w5.heap.size) (by
        unfold Ow
        rw [List.length_append, HL.out]
        exact o12))
      clear o12 u12 g12
      simp only [Act.put, List.setIfInBounds_toArray, List.set_cons_zero, List.set_cons_succ]
      go_wp2_with fail
      refine (padded_walk (.slice a12 (L + tl.length) c12) (l ++ tl) 0 (by rw [List.length_append, HL.out]; omega) w12 HS12.out).mono ?_
      rintro e w13 ⟨v13, rfl, hO13, h9⟩
      have hpd : pdd (l ++ tl) 0 = l ++ tl := by unfold pdd; simp
      rw [hpd] at hO13
      obtain ⟨a13, c13, rfl⟩ := row_len hO13
      have HS13 := Hid.of (Ow.sb hO13)
      have HU13 := Hid.of (HU12.out.trans h9)
      have Hk13 := Hid.of h9
      have hl13 : (l ++ tl).length ≤ 1099511627776 := by rw [List.length_append, HL.out]; omega
      clear h9 hO13 hpd
      generalize hN13 : (l ++ tl).length = N13 at HS13 hl13 ⊢
      clear hN13
      dsimp only
      go_wp2_with fail
      refine (ParseRequest_walk ad hl13 w13 HS13.out (HW.out.up HU13.out)).mono ?_
      rintro e w14 ⟨hR14, h9⟩
      rw [HPt.out] at hR14
      obtain ⟨aS, cS, vS, rfl, hO14⟩ := hR14
      obtain ⟨aC, cC, rfl⟩ := row_len hO14.out.2
      have HU14 := Hid.of (HU13.out.trans h9)
      have Hk14 := Hid.of (Hk13.out.trans h9)
      have HG14 := Hid.of (FdO.fdl hO14.out.1)
      have HC14 := Hid.of (Ow.sb hO14.out.2)
      clear h9 hO14
      unfold rqV
      dsimp only at HG14 HC14 ⊢
      rw [vs_data', vs_data', HNPx.out, HBn.out, HCl.out]
      rw [HBn.out] at HC14
      obtain ⟨w15, hw15⟩ : ∃ w15, w14.alloc (.cells #[.string m, .string t, .int .i64 mi, .slice aS nP cS, .slice aC nb cC, .bool cl] 27) = w15 := ⟨_, rfl⟩
      have HU15 := Hid.of (show Up w w15 by rw [← hw15]; exact HU14.out.alloc _)
      have HS15 := Hid.of (show At w15 w14.heap.size 27 [.string m, .string t, .int .i64 mi, .slice aS nP cS, .slice aC nb cC, .bool cl] by rw [← hw15]; exact at_new w14 27 [.string m, .string t, .int .i64 mi, .slice aS nP cS, .slice aC nb cC, .bool cl])
      have Hu15 := Hid.of (show Up w14 w15 by rw [← hw15]; exact (Up.refl w14).alloc _)
      have HP15 := Hid.of (HP12.out.up (Hk14.out.trans Hu15.out))
      have HF15 := Hid.of (HF12.out.up (Hk14.out.trans Hu15.out))
      have HB15 := Hid.of (HB12.out.up (Hk14.out.trans Hu15.out))
      have HG15 := Hid.of (HG14.out.up Hu15.out)
      have HC15 := Hid.of (HC14.out.up Hu15.out)
      have HW15 := Hid.of hw15
      clear hw15
      have y1 : ((L : Int) == (L : Int)) = true := by simp
      have HTw := Hid.of (twins_same m t mi FF nP cl aS aP cS cP (.slice aC nb cC) (.slice aB nb cB) bd HNPx.out (by omega) w15 HG15.out HF15.out HC15.out HB15.out)
      go_wp2_with (with_reducible show wpList _ _ _ ({ dst := _, op := Op.load 27 _, type := _, pos := _, after := _, guard := _ } :: _) _ _; refine Shut.out ?_)
      show wpList _ _ _ _ _ _
      change wpList _ _ _ _ _ (w14.alloc (.cells #[.string m, .string t, .int .i64 mi, .slice aS nP cS, .slice aC nb cC, .bool cl] 27))
      rw [HW15.out]
      refine wpList_valG (.agg ([.string m, .string t, .int .i64 mi, .slice aS nP cS, .slice aC nb cC, .bool cl] : List Value).toArray) (by kernel_rfl) (exec_load6 rfl rfl HS15.out.range) ?_
      simp only [Act.put, List.setIfInBounds_toArray, List.set_cons_zero, List.set_cons_succ]
      go_wp2_with (with_reducible show wpList _ _ _ ({ dst := _, op := Op.load 27 _, type := _, pos := _, after := _, guard := _ } :: _) _ _; refine Shut.out ?_)
      show wpList _ _ _ _ _ _
      refine wpList_valG (.agg ([.string m, .string t, .int .i64 mi, .slice aP nP cP, .slice aB nb cB, .bool cl] : List Value).toArray) (by kernel_rfl) (exec_load6 rfl rfl HP15.out.range) ?_
      simp only [Act.put, List.setIfInBounds_toArray, List.set_cons_zero, List.set_cons_succ]
      go_wp2_with fail
      refine HTw.out.mono ?_
      rintro e wk ⟨rfl, uk⟩
      have HUk := Hid.of (HU15.out.trans uk)
      clear uk
      dsimp only
      go_wp2
      go_ret
      exact ⟨rfl, HUk.out⟩
end Go.Proofs.YtbgjnghjddcooaaGreatDoor
namespace Go.Proofs.YtbgjnghjddcooaaGreatDoor
open Go.RowKit Go.Shelf TextNum
/-- a request of the law as it lies -/
structure LR where
  m : ByteArray
  t : ByteArray
  mi : Int
  an : Option Addr
  ns : List ByteArray
  cn : Nat
  av : Option Addr
  us : List ByteArray
  cv : Nat
  ab : Option Addr
  nb : Nat
  cb : Nat
  bd : List UInt8
  pad : Int
def lrc (q : LR) : List Value := [.string q.m, .string q.t, .int .i64 q.mi, .slice q.an q.ns.length q.cn, .slice q.av q.us.length q.cv, .slice q.ab q.nb q.cb, .int .i64 q.pad]
structure LRok (w : World) (q : LR) : Prop where
  hN : StL w q.an q.ns q.cn
  hV : StL w q.av q.us q.cv
  hB : Sb w (.slice q.ab q.nb q.cb) q.bd
  mi0 : -9223372036854775808 ≤ q.mi
  mi1 : q.mi ≤ 9223372036854775807
  nl : q.ns.length ≤ 1048576
  bl : q.bd.length ≤ 1048576
  ml : q.m.size ≤ 1048576
  tl : q.t.size ≤ 1048576
  zl : szs (mkF q.ns q.us) ≤ 1099511627000
theorem LRok.up {w w' : World} {q : LR} (h : LRok w q) (u : Up w w') : LRok w' q := ⟨h.hN.up u, h.hV.up u, h.hB.up u, h.mi0, h.mi1, h.nl, h.bl, h.ml, h.tl, h.zl⟩
structure LRL (w : World) (a : Option Addr) (qs : List LR) (c : Nat) : Prop where
  cap : qs.length ≤ c
  cells : ∀ i (h : i < qs.length), ∃ b off, a = some ⟨b, off, none⟩ ∧ w.rangeAt b (off + i * 7) (lrc qs[i])
  ok : ∀ q ∈ qs, LRok w q
theorem LRL.up {w w' : World} {a : Option Addr} {qs : List LR} {c : Nat} (h : LRL w a qs c) (u : Up w w') : LRL w' a qs c :=
  ⟨h.cap, fun i hi => by obtain ⟨b, off, e, k⟩ := h.cells i hi; exact ⟨b, off, e, range_up k u⟩, fun q hq => (h.ok q hq).up u⟩
theorem exec_idxLr {o : Oper} {ρ : Operand → Value} {x y : Operand} {w : World} {b off n c : Nat} (i : Nat) (hi : i < n) (ho : o.op = .indexAddr 46 x y) (hx : ρ x = .slice (some ⟨b, off, none⟩) n c) (hy : ρ y = .int .i64 (i : Int)) : (execOp ρ o).run Tryz.prog w = .ok (.value (.pointer (some ⟨b, off + i * 7, none⟩))) w := by
  have hi' : (i : Int) < (n : Int) := by omega
  unfold execOp
  simp only [ho, hx, hy]
  go_simp
theorem exec_idxWr {o : Oper} {ρ : Operand → Value} {x y : Operand} {w : World} {b off n c : Nat} (i : Nat) (hi : i < n) (ho : o.op = .indexAddr 47 x y) (hx : ρ x = .slice (some ⟨b, off, none⟩) n c) (hy : ρ y = .int .i64 (i : Int)) : (execOp ρ o).run Tryz.prog w = .ok (.value (.pointer (some ⟨b, off + i * 6, none⟩))) w := by
  have hi' : (i : Int) < (n : Int) := by omega
  unfold execOp
  simp only [ho, hx, hy]
  go_simp
/-- a request of the program that is wanted, with its printed form -/
structure WR where
  m : ByteArray
  t : ByteArray
  mi : Int
  aF : Option Addr
  nF : Nat
  cF : Nat
  aR : Option Addr
  nR : Nat
  cR : Nat
  bd : List UInt8
  l : List UInt8
def wrc (x : WR) : List Value := [.string x.m, .string x.t, .int .i64 x.mi, .slice x.aF x.nF x.cF, .slice x.aR x.nR x.cR, .bool false]
def wrs (xs : List WR) : List Value := xs.flatMap wrc
theorem wrs_snoc (xs : List WR) (x : WR) : wrs (xs ++ [x]) = wrs xs ++ wrc x := by simp [wrs]
theorem wrs_get : ∀ (xs : List WR) {i : Nat} (hi : i < xs.length) (j : Nat) (v : Value), (wrc xs[i])[j]? = some v → (wrs xs)[i * 6 + j]? = some v
  | g :: r, 0, _, j, v, hv => by
    have e : wrs (g :: r) = wrc g ++ wrs r := rfl
    have hv2 : (wrc g)[j]? = some v := hv
    rw [e, Nat.zero_mul, Nat.zero_add, List.getElem?_append_left (List.getElem?_eq_some_iff.1 hv2).1]
    exact hv2
  | g :: r, i + 1, hi, j, v, hv => by
    have ih := wrs_get r (i := i) (by simpa using hi) j v hv
    have e : wrs (g :: r) = wrc g ++ wrs r := rfl
    have hl : (wrc g).length = 6 := rfl
    rw [e, List.getElem?_append_right (by rw [hl]; omega), hl, show (i + 1) * 6 + j - 6 = i * 6 + j by omega]
    exact ih
abbrev WRO (w : World) (N : Nat) (a : Option Addr) (xs : List WR) (c : Nat) : Prop := w.ownsRow N 27 6 (.slice a xs.length c) xs.length (wrs xs)
theorem WRO.get {w : World} {N : Nat} {a : Option Addr} {xs : List WR} {c : Nat} (h : WRO w N a xs c) {i : Nat} (hi : i < xs.length) : ∃ b, a = some ⟨b, 0, none⟩ ∧ ∀ j v, (wrc xs[i])[j]? = some v → w.cell? ⟨b, 0 + i * 6 + j, none⟩ = some v := by
  rcases h.2 with ⟨_, h0⟩ | ⟨g, cap, cur, e, _, _, hc, _⟩
  · omega
  · injection e with e1 _ e3
    subst e1 e3
    have hc := World.ownsRow.cells h rfl
    refine ⟨g, rfl, fun j v hv => ?_⟩
    have h1 := hc (i * 6 + j) _ (wrs_get xs hi j v hv)
    rw [Addr.add_lit] at h1
    rw [show 0 + i * 6 + j = 0 + (i * 6 + j) by omega]
    exact h1
theorem WRO.cap {w : World} {N : Nat} {a : Option Addr} {xs : List WR} {c : Nat} (h : WRO w N a xs c) : xs.length ≤ c := by
  rcases h.2 with ⟨_, h0⟩ | ⟨g, cap, cur, e, _, _, hc, _⟩
  · omega
  · injection e with _ _ e3
    omega
theorem Tryz.infoWr : (Tryz.prog.info? 27).map (fun i => (i.zero, i.size, i.bytes)) = some (some (.agg #[.string ⟨#[]⟩, .string ⟨#[]⟩, .int .i64 0, .slice none 0 0, .slice none 0 0, .bool false]), 6, 96) := by kernel_rfl
/-- one request is appended -/
theorem wpList_appWr {w : World} {N q : Nat} {ops : Array Oper} {rest : List Oper} {o : Oper} {a : Act} {Q : Exit → Act → World → Prop} (hgd : o.guard = none) (x y : Operand)
    (ho : o.op = .call { callee := .builtin .append, args := #[x, y], argTypes := #[47, 47] }) (ax : Option Addr) (cx : Nat) (fs : List WR) (f : WR) (hq : fs.length = q) (hx : a.eval x = .slice ax q cx) (hy : a.eval y = .slice (some ⟨w.heap.size, 0, none⟩) 1 1)
    (hR : WRO w N ax fs cx) (hNw : N ≤ w.heap.size) (hql : q ≤ 1099511627776)
    (K : ∀ ax2 cx2 w', WRO w' N ax2 (fs ++ [f]) cx2 → (∀ W, Up W w → W.heap.size ≤ N → Up W w') → w.grownBy w' (Value.slice ax q cx).ownBlock → wpList Tryz.prog ops Q rest (a.put o.dst (.slice ax2 (q + 1) cx2)) w') :
    wpList Tryz.prog ops Q (o :: rest) a (w.alloc (.cells (wrc f).toArray 27)) := by
  subst hq
  obtain ⟨i1, hi1, hz0, hz1, hz2⟩ := info_parts Tryz.infoWr
  have HUx := (Up.refl w).alloc (.cells (wrc f).toArray 27)
  have hnu := ow_up hR HUx
  refine wpList_append_own _ hgd x y 47 ho N 27 i1 (.agg #[.string ⟨#[]⟩, .string ⟨#[]⟩, .int .i64 0, .slice none 0 0, .slice none 0 0, .bool false]) 6 96 Tryz.underlying47 hi1 hz0 hz1 hz2 rfl (by omega) (.slice ax fs.length cx) fs.length _ hx hnu ⟨w.heap.size, 0, none⟩ 1 1 (wrc f) hy rfl ?_ ?_ (by simp only [maxLen]; omega) (by omega) (Nat.le_trans hNw HUx.size) ?_
  · intro j u hu
    rw [Addr.add_lit]
    exact At.cell (at_new w 27 (wrc f)) (i := 0 + j) (by rw [Nat.zero_add]; exact hu)
  · intro u hu
    unfold wrc at hu
    simp only [List.mem_cons, List.not_mem_nil, or_false] at hu
    rcases hu with rfl | rfl | rfl | rfl | rfl | rfl <;> rfl
  intro v8 w8 o8 g8 _
  obtain ⟨ax2, cx2, rfl⟩ : ∃ ax2 cx2, v8 = .slice ax2 (fs.length + 1) cx2 := by
    rcases o8.2 with ⟨_, h0⟩ | ⟨g, cap, cur, e1, _⟩
    · omega
    · exact ⟨_, cap, e1⟩
  refine K ax2 cx2 w8 ?_ (fun W hU hW => up_grownBy (hU.trans HUx) g8 (fun k hk => Nat.le_trans hW (World.ownsRow.lt hR k hk).1)) (up_grown HUx g8)
  show w8.ownsRow N 27 6 (.slice ax2 (fs ++ [f]).length cx2) (fs ++ [f]).length (wrs (fs ++ [f]))
  rw [List.length_append, wrs_snoc]
  exact o8
/-- bytes that are read are appended: the row's block is the old one or a new one -/
theorem wpList_appSb3 {w : World} {N q : Nat} {ops : Array Oper} {rest : List Oper} {o : Oper} {a : Act} {Q : Exit → Act → World → Prop} (hgd : o.guard = none) (x y : Operand)
    (ho : o.op = .call { callee := .builtin .append, args := #[x, y], argTypes := #[22, 22] }) (ax : Option Addr) (cx : Nat) (xs : List UInt8) (vy : Value) (ds : List UInt8) (hx : a.eval x = .slice ax q cx) (hy : a.eval y = vy) (hSb : Sb w vy ds)
    (hR : w.ownsRow N 5 1 (.slice ax q cx) q (cb xs)) (hNw : N ≤ w.heap.size) (hql : q + ds.length ≤ 1099511627776)
    (K : ∀ ax2 cx2 w', w'.ownsRow N 5 1 (.slice ax2 (q + ds.length) cx2) (q + ds.length) (cb (xs ++ ds)) → (∀ W, Up W w → W.heap.size ≤ N → Up W w') → w.grownBy w' (Value.slice ax q cx).ownBlock → (∀ g, (Value.slice ax2 (q + ds.length) cx2).ownBlock = some g → (Value.slice ax q cx).ownBlock = some g ∨ w.heap.size ≤ g) → wpList Tryz.prog ops Q rest (a.put o.dst (.slice ax2 (q + ds.length) cx2)) w') :
    wpList Tryz.prog ops Q (o :: rest) a w := by
  obtain ⟨i0, hi0, hz0, hz1, hz2⟩ := info_parts Tryz.infoU8
  obtain ⟨ay, cy, rfl, k1, k2, k3, k4⟩ := hSb
  cases ay with
  | none =>
    obtain ⟨rfl, rfl⟩ := k3 rfl
    refine wpList_plain hgd fun K2 hK => ?_
    have hr := run_app_none (ty := o.type) (c := 0) hR
    unfold Oper.wp execOp
    simp only [List.length_nil] at hy
    simp only [ho, resolve, invoke, builtin, Sem.run_bind, Sem.run_pure, Result.andThen_ok, List.map_toArray, List.map_cons, List.map_nil, hx, hy, hr]
    exact hK _ _ (K ax cx w (by rw [List.append_nil]; exact hR) (fun W hU _ => hU) (World.grownBy.refl _ _) (fun g hg => .inl hg))
  | some ad =>
    refine wpList_append_frs hgd x y 22 ho N 5 i0 (.int .u8 0) 1 Tryz.underlying22 hi0 hz0 hz1 hz2 rfl _ q _ hx hR ad ds.length cy (cb ds) hy (by rw [cb_length]; omega) (k4 ad rfl).2 (cb_one ds) (by simp only [maxLen]; omega) (by omega) hNw ?_
    intro v8 w8 o8 g8 f8
    obtain ⟨a4, c4, rfl⟩ := row_len o8
    exact K a4 c4 w8 (by rw [cb_append]; exact o8) (fun W hU hW => up_grownBy hU g8 (fun g hg => Nat.le_trans hW (World.ownsRow.lt hR g hg).1)) g8 (fun g hg => f8 g hg)
end Go.Proofs.YtbgjnghjddcooaaGreatDoor
namespace Go.Proofs.YtbgjnghjddcooaaGreatDoor
open Go.RowKit Go.Shelf TextNum
theorem exec_idxWr0 {o : Oper} {ρ : Operand → Value} {x y : Operand} {w : World} {b n c : Nat} (i : Nat) (hi : i < n) (ho : o.op = .indexAddr 47 x y) (hx : ρ x = .slice (some ⟨b, 0, none⟩) n c) (hy : ρ y = .int .i64 (i : Int)) : (execOp ρ o).run Tryz.prog w = .ok (.value (.pointer (some ⟨b, i * 6, none⟩))) w := by
  have h := exec_idxWr (w := w) i hi ho hx hy
  rw [Nat.zero_add] at h
  exact h
/-- what the law's first loop keeps -/
structure SJ (wr W : World) (N : Nat) (a5 : Option Addr) (c5 L : Nat) (str : List UInt8) (a6 : Option Addr) (c6 : Nat) (xs : List WR) : Prop where
  row : wr.ownsRow N 5 1 (.slice a5 L c5) L (cb str)
  wnt : WRO wr N a6 xs c6
  up : Up W wr
  bod : ∀ x ∈ xs, wr.ownsRow N 5 1 (.slice x.aR x.nR x.cR) x.nR (cb x.bd)
  off : ∀ x ∈ xs, (Value.slice x.aR x.nR x.cR).ownBlock = none ∨ (Value.slice x.aR x.nR x.cR).ownBlock ≠ (Value.slice a5 L c5).ownBlock
  red : ∀ x ∈ xs, ∃ fs, ∀ tl, rqP (x.l ++ tl) = .ok ((⟨x.m.data.toList, x.t.data.toList, x.mi, fs⟩, x.bd), x.l.length)
  pos : ∀ x ∈ xs, 1 ≤ x.l.length
  len : ∀ x ∈ xs, x.nR = x.bd.length
theorem SJ.ups {wr wr' W : World} {N : Nat} {a5 : Option Addr} {c5 L : Nat} {str : List UInt8} {a6 : Option Addr} {c6 : Nat} {xs : List WR} (h : SJ wr W N a5 c5 L str a6 c6 xs) (u : Up wr wr') : SJ wr' W N a5 c5 L str a6 c6 xs :=
  ⟨ow_up h.row u, ow_up h.wnt u, h.up.trans u, fun x hx => ow_up (h.bod x hx) u, h.off, h.red, h.pos, h.len⟩
theorem SJ.app {wr w4 W : World} {N : Nat} {a5 a2 : Option Addr} {c5 L c2 L2 : Nat} {str str2 : List UInt8} {a6 : Option Addr} {c6 : Nat} {xs : List WR} (h : SJ wr W N a5 c5 L str a6 c6 xs) (hr : w4.ownsRow N 5 1 (.slice a2 L2 c2) L2 (cb str2)) (g : wr.grownBy w4 (Value.slice a5 L c5).ownBlock) (u : Up W w4)
    (f : ∀ b, (Value.slice a2 L2 c2).ownBlock = some b → (Value.slice a5 L c5).ownBlock = some b ∨ wr.heap.size ≤ b) : SJ w4 W N a2 c2 L2 str2 a6 c6 xs :=
  ⟨hr, World.ownsRow.kept h.wnt g (own_off h.wnt h.row (by decide)), u, fun x hx => World.ownsRow.kept (h.bod x hx) g (h.off x hx), fun x hx => by
    cases hv : (Value.slice x.aR x.nR x.cR).ownBlock with
    | none => exact .inl rfl
    | some b =>
      refine .inr (fun e => ?_)
      rcases f b e.symm with h1 | h1
      · rcases h.off x hx with h2 | h2
        · rw [hv] at h2; cases h2
        · rw [hv, h1] at h2; exact h2 rfl
      · have := (World.ownsRow.lt (h.bod x hx) b hv).2
        omega, h.red, h.pos, h.len⟩
theorem SJ.want {w5 w7 W : World} {N : Nat} {a5 : Option Addr} {c5 L : Nat} {str : List UInt8} {a6 a7 : Option Addr} {c6 c7 : Nat} {xs : List WR} {x : WR} (h : SJ w5 W N a5 c5 L str a6 c6 xs) (hw : WRO w7 N a7 (xs ++ [x]) c7) (g : w5.grownBy w7 (Value.slice a6 xs.length c6).ownBlock) (u : Up W w7)
    (hb : w5.ownsRow N 5 1 (.slice x.aR x.nR x.cR) x.nR (cb x.bd)) (ho : (Value.slice x.aR x.nR x.cR).ownBlock = none ∨ (Value.slice x.aR x.nR x.cR).ownBlock ≠ (Value.slice a5 L c5).ownBlock)
    (hr : ∃ fs, ∀ tl, rqP (x.l ++ tl) = .ok ((⟨x.m.data.toList, x.t.data.toList, x.mi, fs⟩, x.bd), x.l.length)) (hp : 1 ≤ x.l.length) (hn : x.nR = x.bd.length) : SJ w7 W N a5 c5 L str a7 c7 (xs ++ [x]) := by
  refine ⟨World.ownsRow.kept h.row g (own_off h.row h.wnt (by decide)), hw, u, fun y hy => ?_, fun y hy => ?_, fun y hy => ?_, fun y hy => ?_, fun y hy => ?_⟩
  all_goals rcases List.mem_append.1 hy with hy | hy
  · exact World.ownsRow.kept (h.bod y hy) g (own_off (h.bod y hy) h.wnt (by decide))
  · rw [List.mem_singleton.1 hy]; exact World.ownsRow.kept hb g (own_off hb h.wnt (by decide))
  · exact h.off y hy
  · rw [List.mem_singleton.1 hy]; exact ho
  · exact h.red y hy
  · rw [List.mem_singleton.1 hy]; exact hr
  · exact h.pos y hy
  · rw [List.mem_singleton.1 hy]; exact hp
  · exact h.len y hy
  · rw [List.mem_singleton.1 hy]; exact hn
theorem pdd_len (b : List UInt8) (pad : Int) : (pdd b pad).length ≤ b.length + 1100000 := by
  unfold pdd
  rw [List.length_append, List.length_replicate]
  omega
set_option maxRecDepth 100000 in
set_option maxHeartbeats 8000000 in
theorem streams_walk (ad : Nat → Addr) (al : Option Addr) (qs : List LR) (cl' n : Nat) (hqn : qs.length = n) (ax : Option Addr) (nx cx : Nat) (tl : List UInt8) (w : World) (hQ : LRL w al qs cl') (hT : Sb w (.slice ax nx cx) tl) (hW : GW w ad) (hn : n ≤ 150000) (htl : tl.length ≤ 1048576) :
    Calls Tryz.prog 5 #[.slice al n cl', .slice ax nx cx] w fun e w' => e = .returned (.bool true) ∧ Up w w' := by
  have HQ := Hid.of hQ
  have HT := Hid.of hT
  have HW := Hid.of hW
  have HQn := Hid.of hqn
  have hcap := hQ.cap
  rw [hqn] at hcap
  clear hQ hT hW hqn
  go_enter Tryz.func5, Tryz.ntmps5
  go_wp2_with fail
  refine (known_walk ad w HW.out).mono ?_
  rintro e w2 ⟨rfl, h9⟩
  have HU2 := Hid.of h9
  clear h9
  dsimp only
  obtain ⟨N, hN⟩ : ∃ N, w2.heap.size = N := ⟨_, rfl⟩
  have HNe := Hid.of hN
  clear hN
  go_wp2
  go_loopw [5, 6, 7] (fun v5 v6 v7 wr => ∃ i : Nat, v7 = .int .i64 (i : Int) ∧ i ≤ n ∧ ∃ L a5 c5, v5 = .slice a5 L c5 ∧ L ≤ i * 1099511 ∧ ∃ k a6 c6, v6 = .slice a6 k c6 ∧ k ≤ i ∧ Hid (∃ xs, xs.length = k ∧ SJ wr w2 N a5 c5 L (xs.flatMap WR.l) a6 c6 xs)) (fun _ _ v7 _ => n - (intOf v7).toNat)
  case atStart => exact ⟨0, rfl, Nat.zero_le _, 0, none, 0, rfl, Nat.zero_le _, 0, none, 0, rfl, Nat.zero_le _, Hid.of ⟨[], rfl, ⟨World.ownsRow_nil _ _ _ _, World.ownsRow_nil _ _ _ _, Up.refl _, fun x hx => (by cases hx), fun x hx => (by cases hx), fun x hx => (by cases hx), fun x hx => (by cases hx), fun x hx => (by cases hx)⟩⟩⟩
  case round =>
    obtain ⟨i, rfl, hi, L, a5, c5, rfl, hLi, K, a6, c6, rfl, hKi, hX⟩ := hrel
    obtain ⟨xs, hxn, hJ⟩ := hX.out
    have HXn := Hid.of hxn
    have HJ := Hid.of hJ
    have HUw := Hid.of (HU2.out.trans hJ.up)
    clear hX hxn hJ
    by_cases hil : i < n
    · have hilz : (i : Int) < (n : Int) := by omega
      have hL2 : L ≤ (i + 1) * 1099511 := Nat.le_trans hLi (Nat.mul_le_mul_right _ (Nat.le_succ i))
      have hiq : i < qs.length := by rw [HQn.out]; exact hil
      obtain ⟨b, off, rfl, krg⟩ := HQ.out.cells i hiq
      have hqm := List.getElem_mem hiq
      have hok := HQ.out.ok _ hqm
      generalize qs[i] = q at krg hok
      obtain ⟨m, t, mi, an, ns, cn, av, us, cv, ab, nb, cb', bd, pad⟩ := q
      have HRg := Hid.of (show w.rangeAt b (off + i * 7) [.string m, .string t, .int .i64 mi, .slice an ns.length cn, .slice av us.length cv, .slice ab nb cb', .int .i64 pad] from krg)
      have HOk := Hid.of hok
      have hnl : ns.length ≤ 1048576 := hok.nl
      have hbl : bd.length ≤ 1048576 := hok.bl
      have hm : m.size ≤ 1099511627776 := Nat.le_trans hok.ml (by omega)
      have ht : t.size ≤ 1099511627776 := Nat.le_trans hok.tl (by omega)
      have hm0 : -9223372036854775808 ≤ mi := hok.mi0
      have hm1 : mi ≤ 9223372036854775807 := hok.mi1
      have hz : szs (mkF ns us) ≤ 1099511627000 := hok.zl
      clear krg hok hqm hiq
      obtain ⟨F, hF⟩ : ∃ F, mkF ns us = F := ⟨_, rfl⟩
      have HFe := Hid.of hF
      obtain ⟨nF, hnF⟩ : ∃ nF, ns.length = nF := ⟨_, rfl⟩
      have HNs := Hid.of hnF
      have HNF := Hid.of (show F.length = nF by rw [← hF, mkF_len]; exact hnF)
      rw [hF] at hz
      clear hF hnF
      obtain ⟨BB, hBB⟩ : ∃ BB, pdd bd pad = BB := ⟨_, rfl⟩
      obtain ⟨nB, hnB⟩ : ∃ nB, BB.length = nB := ⟨_, rfl⟩
      have hBl : nB ≤ 2200000 := by rw [← hnB, ← hBB]; have := pdd_len bd pad; omega
      have HBe := Hid.of hBB
      have HBn := Hid.of hnB
      clear hBB hnB
      go_wp2_with (with_reducible show wpList _ _ _ ({ dst := _, op := Op.indexAddr 46 _ _, type := _, pos := _, after := _, guard := _ } :: _) _ _; refine Shut.out ?_)
      show wpList _ _ _ _ _ _
      refine wpList_val7 (.pointer (some ⟨b, off + i * 7, none⟩)) rfl (exec_idxLr i hil rfl rfl rfl) ?_
      simp only [Act.put, List.setIfInBounds_toArray, List.set_cons_zero, List.set_cons_succ]
      refine wpList_load_mid rfl _ _ rfl b (off + i * 7) rfl [.string m, .string t, .int .i64 mi, .slice an ns.length cn, .slice av us.length cv, .slice ab nb cb', .int .i64 pad] _ (range_up HRg.out HUw.out) Tryz.underlying52 rfl (by kernel_rfl) ?_
      simp only [Act.put, List.setIfInBounds_toArray, List.set_cons_zero, List.set_cons_succ]
      go_wp2_with fail
      refine (request_walk m t mi an ns cn av us cv ab nb cb' bd pad wr (HOk.out.hN.up HUw.out) (HOk.out.hV.up HUw.out) (HOk.out.hB.up HUw.out) hnl hbl).mono ?_
      rintro e w3 ⟨⟨aF1, cF1, vF1, rfl, hO⟩, h9⟩
      rw [HBe.out, HFe.out] at hO
      obtain ⟨aR1, cR1, rfl⟩ := row_len hO.out.2
      have HU3 := Hid.of (HUw.out.trans h9)
      have Hk3 := Hid.of h9
      have HF3 := Hid.of (FdO.fdl hO.out.1)
      have HBo3 := Hid.of hO.out.2
      clear hO h9
      unfold Ow at HBo3
      rw [HBn.out] at HBo3 ⊢
      rw [HNs.out]
      have HFR := Hid.of (FormatRequest_walk ad m t mi aF1 F cF1 aR1 nB cR1 BB false w3 HF3.out (Ow.sb (show Ow w3 wr.heap.size (.slice aR1 nB cR1) BB by unfold Ow; rw [HBn.out]; exact HBo3.out)) (HW.out.up HU3.out) hm ht hm0 hm1 hz (by omega))
      rw [HNF.out] at HFR
      go_wp2_with fail
      refine HFR.out.mono ?_
      rintro e w4 ⟨hR, h9⟩
      have HU4 := Hid.of (HU3.out.trans h9)
      have Hk4 := Hid.of (Hk3.out.trans h9)
      clear h9 HFR
      have HJ4 := Hid.of (HJ.out.ups Hk4.out)
      cases hq : frQ m t mi F BB with
      | error k =>
        rw [hq] at hR
        have hne : (nums k == 0) = false := by have := frQ_er hq; simpa [bne] using this
        obtain rfl := hR
        clear hq
        dsimp only
        go_wp2
        go_roundw
        all_goals first
          | exact ⟨i + 1, by go_num, by omega, L, a5, c5, rfl, hL2, K, a6, c6, rfl, by omega, Hid.of ⟨xs, HXn.out, HJ4.out⟩⟩
          | (simp [intOf]; omega)
      | ok l =>
        rw [hq] at hR
        obtain ⟨a8, c8, rfl, hO8⟩ := hR
        obtain ⟨hck, hl⟩ := frQ_ok hq
        have hcko := ckq_ok hck
        have hll : l.length ≤ 1099511 := by
          rw [hl, prt_len, frS_len]
          omega
        have hl1 : 1 ≤ l.length := by
          rw [hl, prt_len]
          omega
        have HRd := Hid.of (show ∃ fs, ∀ tl, rqP (l ++ tl) = .ok ((⟨m.data.toList, t.data.toList, mi, fs⟩, BB), l.length) from ⟨frF F BB.length, fun tl => by
          have h1 := rqP_prt hck tl
          rw [← hl] at h1
          exact h1⟩)
        clear hq hl hck hcko
        have HS8 := Hid.of (Ow.sb hO8.out)
        clear hO8
        obtain ⟨L8, hL8⟩ : ∃ L8, l.length = L8 := ⟨_, rfl⟩
        have HL8 := Hid.of hL8
        rw [hL8] at HS8 hll hl1 ⊢
        clear hL8
        dsimp only
        go_wp2_with (with_reducible show wpList _ _ _ ({ dst := _, op := Op.call { callee := Callee.builtin Builtin.append, args := _, argTypes := _ }, type := _, pos := _, after := _, guard := _ } :: _) _ _; refine Shut.out ?_)
        show wpList _ _ _ _ _ _
        refine wpList_appSb3 (N := N) rfl _ _ rfl a5 c5 (xs.flatMap WR.l) _ l rfl rfl HS8.out HJ4.out.row (by rw [← HNe.out]; exact HJ4.out.up.size) (by rw [HL8.out]; omega) ?_
        intro a2 c2 w5 o5 u5 g5 f5
        rw [HL8.out] at o5 f5 ⊢
        have Hq5 := Hid.of (u5 w2 HJ4.out.up (by rw [HNe.out]; exact Nat.le_refl _))
        have HJ5 := Hid.of (HJ4.out.app o5 g5 Hq5.out f5)
        have HU5 := Hid.of (HU2.out.trans Hq5.out)
        clear o5 u5 g5 f5 Hq5
        simp only [Act.put, List.setIfInBounds_toArray, List.set_cons_zero, List.set_cons_succ]
        go_wp2_with (with_reducible show wpList _ _ _ ({ dst := _, op := Op.indexAddr 46 _ _, type := _, pos := _, after := _, guard := _ } :: _) _ _; refine Shut.out ?_)
        show wpList _ _ _ _ _ _
        refine wpList_val7 (.pointer (some ⟨b, off + i * 7, none⟩)) rfl (exec_idxLr i hil rfl rfl rfl) ?_
        simp only [Act.put, List.setIfInBounds_toArray, List.set_cons_zero, List.set_cons_succ]
        refine wpList_load_mid rfl _ _ rfl b (off + i * 7) rfl [.string m, .string t, .int .i64 mi, .slice an ns.length cn, .slice av us.length cv, .slice ab nb cb', .int .i64 pad] _ (range_up HRg.out HU5.out) Tryz.underlying52 rfl (by kernel_rfl) ?_
        simp only [Act.put, List.setIfInBounds_toArray, List.set_cons_zero, List.set_cons_succ]
        go_wp2_with fail
        refine (request_walk m t mi an ns cn av us cv ab nb cb' bd pad w5 (HOk.out.hN.up HU5.out) (HOk.out.hV.up HU5.out) (HOk.out.hB.up HU5.out) hnl hbl).mono ?_
        rintro e w6 ⟨⟨aF2, cF2, vF2, rfl, hO⟩, h9⟩
        rw [HBe.out, HFe.out] at hO
        obtain ⟨aR2, cR2, rfl⟩ := row_len hO.out.2
        have HU6 := Hid.of (HU5.out.trans h9)
        have Hk6 := Hid.of h9
        have HF6 := Hid.of (FdO.fdl hO.out.1)
        have HBo6 := Hid.of hO.out.2
        clear hO h9
        unfold Ow at HBo6
        rw [HBn.out] at HBo6 ⊢
        rw [HNs.out]
        have HJ6 := Hid.of (HJ5.out.ups Hk6.out)
        go_wp2_with (with_reducible show wpList _ _ _ ({ dst := _, op := Op.call { callee := Callee.builtin Builtin.append, args := _, argTypes := _ }, type := _, pos := _, after := _, guard := _ } :: _) _ _; refine Shut.out ?_)
        show wpList _ _ _ _ _ _
        change wpList _ _ _ _ _ (w6.alloc (.cells (wrc ⟨m, t, mi, aF2, nF, cF2, aR2, nB, cR2, BB, l⟩).toArray 27))
        refine wpList_appWr (N := N) rfl _ _ rfl a6 c6 xs ⟨m, t, mi, aF2, nF, cF2, aR2, nB, cR2, BB, l⟩ HXn.out rfl rfl HJ6.out.wnt (by rw [← HNe.out]; exact HJ6.out.up.size) (by omega) ?_
        intro a7 c7 w7 o7 u7 g7
        have HJ7 := Hid.of (HJ6.out.want o7 (by rw [HXn.out]; exact g7) (u7 w2 HJ6.out.up (by rw [HNe.out]; exact Nat.le_refl _)) (ow_base HBo6.out (by have := HJ5.out.up.size; rw [HNe.out] at this; exact this)) (by
          cases hv : (Value.slice aR2 nB cR2).ownBlock with
          | none => exact .inl rfl
          | some g =>
            refine .inr (fun e => ?_)
            have h1 := (World.ownsRow.lt HBo6.out g hv).1
            have h2 := (World.ownsRow.lt HJ5.out.row g e.symm).2
            omega) HRd.out (by show 1 ≤ l.length; rw [HL8.out]; exact hl1) HBn.out.symm)
        have HXn2 := Hid.of (show (xs ++ [(⟨m, t, mi, aF2, nF, cF2, aR2, nB, cR2, BB, l⟩ : WR)]).length = K + 1 by rw [List.length_append, HXn.out]; rfl)
        have HFm := Hid.of (show xs.flatMap WR.l ++ l = (xs ++ [(⟨m, t, mi, aF2, nF, cF2, aR2, nB, cR2, BB, l⟩ : WR)]).flatMap WR.l by rw [List.flatMap_append]; simp)
        rw [HFm.out] at HJ7
        clear o7 u7 g7
        simp only [Act.put, List.setIfInBounds_toArray, List.set_cons_zero, List.set_cons_succ]
        have hL3 : L + L8 ≤ (i + 1) * 1099511 := by rw [Nat.succ_mul]; exact Nat.add_le_add hLi hll
        go_wp2
        go_roundw
        all_goals first
          | exact ⟨i + 1, by go_num, by omega, L + L8, a2, c2, rfl, hL3, K + 1, a7, c7, rfl, by omega, Hid.of ⟨_, HXn2.out, HJ7.out⟩⟩
          | (simp [intOf]; omega)
    · have hilz : ¬ (i : Int) < (n : Int) := by omega
      go_wp2_with (with_reducible show wpList _ _ _ ({ dst := _, op := Op.call { callee := Callee.builtin Builtin.append, args := _, argTypes := _ }, type := _, pos := _, after := _, guard := _ } :: _) _ _; refine Shut.out ?_)
      show wpList _ _ _ _ _ _
      refine wpList_appSb3 (N := N) rfl _ _ rfl a5 c5 (xs.flatMap WR.l) _ tl rfl rfl (HT.out.up HUw.out) HJ.out.row (by rw [← HNe.out]; exact HJ.out.up.size) (by omega) ?_
      intro a2 c2 w8 o5 u5 g5 f5
      have Hq5 := Hid.of (u5 w2 HJ.out.up (by rw [HNe.out]; exact Nat.le_refl _))
      have HJ8 := Hid.of (HJ.out.app o5 g5 Hq5.out f5)
      have HU8 := Hid.of (HU2.out.trans Hq5.out)
      have HS8 := Hid.of (show Sb w8 (.slice a2 (L + tl.length) c2) ((xs.drop 0).flatMap WR.l ++ tl) from Ow.sb (B := N) (by
        have h1 := HJ8.out.row
        have h2 := HJ8.out.row.1
        unfold Ow
        rw [List.drop_zero]
        have h3 : (xs.flatMap WR.l ++ tl).length = L + tl.length := by rw [cb_length] at h2; omega
        rw [h3]
        exact h1))
      clear o5 u5 g5 f5 Hq5 HJ
      have hcapw := HJ8.out.wnt.cap
      rw [HXn.out] at hcapw
      have hLt : L + tl.length ≤ 1099511627776 := by omega
      generalize L + tl.length = L9 at HS8 HJ8 hLt ⊢
      have hK15 : K ≤ 150000 := by omega
      clear hLi hi hil
      simp only [Act.put, List.setIfInBounds_toArray, List.set_cons_zero, List.set_cons_succ]
      go_wp2
      go_loopw [5, 10] (fun v5 v10 wr => ∃ k : Nat, v10 = .int .i64 (k : Int) ∧ k ≤ K ∧ ∃ n5 a5 c5, v5 = .slice a5 n5 c5 ∧ n5 ≤ 1099511627776 ∧ Hid (Sb wr (.slice a5 n5 c5) ((xs.drop k).flatMap WR.l ++ tl) ∧ Up w8 wr)) (fun _ v10 _ => K - (intOf v10).toNat)
      case atStart => exact ⟨0, rfl, Nat.zero_le _, _, _, _, rfl, by omega, Hid.of ⟨HS8.out, Up.refl _⟩⟩
      case round =>
        obtain ⟨k, rfl, hk, n5, a5, c5, rfl, hn5, hQ⟩ := hrel
        have HSs := Hid.of hQ.out.1
        have HUr := Hid.of hQ.out.2
        clear hQ
        by_cases hkK : k < K
        · have hkz : (k : Int) < (K : Int) := by omega
          have hkx : k < xs.length := by rw [HXn.out]; exact hkK
          obtain ⟨x, hx⟩ : ∃ x, xs[k] = x := ⟨_, rfl⟩
          have hxm : x ∈ xs := by rw [← hx]; exact List.getElem_mem hkx
          obtain ⟨bw, hbw, hwc⟩ := HJ8.out.wnt.get hkx
          rw [hx] at hwc
          have HWc := Hid.of (fun j v h => HUr.out.cell (hwc j v h))
          obtain ⟨fs, hok⟩ := HJ8.out.red x hxm
          have HRd := Hid.of (hok ((xs.drop (k + 1)).flatMap WR.l ++ tl))
          have hlx1 := HJ8.out.pos x hxm
          have HBx0 := Hid.of ((Ow.sb (show Ow w8 N (.slice x.aR x.nR x.cR) x.bd by unfold Ow; rw [← HJ8.out.len x hxm]; exact HJ8.out.bod x hxm)).up HUr.out)
          have HDr := Hid.of (show (xs.drop k).flatMap WR.l ++ tl = x.l ++ ((xs.drop (k + 1)).flatMap WR.l ++ tl) by
            rw [List.drop_eq_getElem_cons hkx, hx, List.flatMap_cons, List.append_assoc])
          rw [HDr.out] at HSs
          obtain ⟨R, hR⟩ : ∃ R, (xs.drop (k + 1)).flatMap WR.l ++ tl = R := ⟨_, rfl⟩
          have HRe := Hid.of hR
          rw [hR] at HSs HRd
          clear hR HDr hx hok hwc hxm hkx
          have hsl := HSs.out.len
          have hlxn : x.l.length ≤ n5 := by rw [hsl.1, List.length_append]; omega
          have HLn := Hid.of hsl.1
          clear hsl
          go_wp2_with fail
          refine (ParseRequest_walk ad hn5 wr HSs.out (HW.out.up (HU8.out.trans HUr.out))).mono ?_
          rintro e w9 ⟨hR9, h9⟩
          rw [HRd.out] at hR9
          obtain ⟨aP, cP, vP, rfl, hO9⟩ := hR9
          obtain ⟨aB, cB, rfl⟩ := row_len hO9.out.2
          have Hk9 := Hid.of h9
          have HB9 := Hid.of (Ow.sb hO9.out.2)
          clear h9 hO9
          unfold rqV
          dsimp only at HB9 ⊢
          rw [vs_data', vs_data']
          obtain ⟨cl, hcl⟩ : ∃ cl, cls (x.mi == 0) fs = cl := ⟨_, rfl⟩
          rw [hcl]
          clear hcl
          obtain ⟨nP, hnP⟩ : ∃ nP, fs.length = nP := ⟨_, rfl⟩
          obtain ⟨nB, hnB⟩ : ∃ nB, x.bd.length = nB := ⟨_, rfl⟩
          obtain ⟨lx, hlx⟩ : ∃ lx, x.l.length = lx := ⟨_, rfl⟩
          have HLx := Hid.of hlx
          rw [hnP, hnB, hlx]
          rw [hnB] at HB9
          rw [hlx] at hlx1 hlxn
          clear hnP hnB hlx
          obtain ⟨w10, hw10⟩ : ∃ w10, w9.alloc (.cells #[.string x.m, .string x.t, .int .i64 x.mi, .slice aP nP cP, .slice aB nB cB, .bool cl] 27) = w10 := ⟨_, rfl⟩
          have HP10 := Hid.of (show At w10 w9.heap.size 27 [.string x.m, .string x.t, .int .i64 x.mi, .slice aP nP cP, .slice aB nB cB, .bool cl] by rw [← hw10]; exact at_new w9 27 [.string x.m, .string x.t, .int .i64 x.mi, .slice aP nP cP, .slice aB nB cB, .bool cl])
          have Hk10 := Hid.of (show Up wr w10 by rw [← hw10]; exact Hk9.out.alloc _)
          have HBp := Hid.of (show Sb w10 (.slice aB nB cB) x.bd by rw [← hw10]; exact HB9.out.up ((Up.refl w9).alloc _))
          have HBx := Hid.of (HBx0.out.up Hk10.out)
          have HWc0 := Hid.of (show w10.cell? ⟨bw, k * 6, none⟩ = some (.string x.m) from by have h := Hk10.out.cell (HWc.out 0 _ rfl); rw [Nat.zero_add, Nat.add_zero] at h; exact h)
          have HWc1 := Hid.of (show w10.cell? ⟨bw, k * 6 + 1, none⟩ = some (.string x.t) from by have h := Hk10.out.cell (HWc.out 1 _ rfl); rw [Nat.zero_add] at h; exact h)
          have HWc4 := Hid.of (show w10.cell? ⟨bw, k * 6 + 4, none⟩ = some (.slice x.aR x.nR x.cR) from by have h := Hk10.out.cell (HWc.out 4 _ rfl); rw [Nat.zero_add] at h; exact h)
          have HW10 := Hid.of hw10
          clear hw10 HWc HB9 HBx0
          have hlz1 : ¬ (lx : Int) < 1 := by omega
          have hlz2 : ¬ (n5 : Int) < (lx : Int) := by omega
          go_wp2
          change Code.wp _ _ _ _ (w9.alloc (.cells #[.string x.m, .string x.t, .int .i64 x.mi, .slice aP nP cP, .slice aB nB cB, .bool cl] 27))
          rw [HW10.out]
          subst hbw
          refine wp_region_held_drew (S := fun w2 => At w2 w9.heap.size 27 [.string x.m, .string x.t, .int .i64 x.mi, .slice aP nP cP, .slice aB nB cB, .bool cl] ∧ Up w10 w2) (by kernel_rfl) ⟨HP10.out.up (Up.refl _).drew, (Up.refl w10).drew⟩ (fun hS => ?_)
          refine wpAnyH_take (i := 0) (oi := { dst := some 59, op := Go.Op.move (Go.Operand.tmp 13), type := 28, pos := "outright.go:177", after := #[], guard := none }) (v := .int .i64 0) rfl (by kernel_rfl) (by kernel_rfl) (by kernel_rfl) (fun _ _ _ h => h) (Or.inl ⟨by kernel_rfl, ?_⟩) hS ?_
          · intro w5 hSw
            clear hSw hS
            go_simp
          simp only [Act.put, List.setIfInBounds_toArray, List.set_cons_zero, List.set_cons_succ]
          refine wpAnyH_take (i := 1) (oi := { dst := some 60, op := Go.Op.binOp Go.BinOp.neq 3 (Go.Operand.tmp 59) (Go.Operand.const (Go.Value.int Go.IntKind.i64 0)) 3, type := 4, pos := "outright.go:177", after := #[{ on := 0, ground := Go.Ground.data }], guard := none }) (v := .bool false) rfl (by kernel_rfl) (by kernel_rfl) (by kernel_rfl) (fun _ _ _ h => h) (Or.inl ⟨by kernel_rfl, ?_⟩) hS ?_
          · intro w5 hSw
            clear hSw hS
            go_simp
          simp only [Act.put, List.setIfInBounds_toArray, List.set_cons_zero, List.set_cons_succ]
          refine wpAnyH_take (i := 2) (oi := { dst := some 61, op := Go.Op.move (Go.Operand.tmp 60), type := 4, pos := "outright.go:177", after := #[{ on := 1, ground := Go.Ground.data }], guard := none }) (v := .bool false) rfl (by kernel_rfl) (by kernel_rfl) (by kernel_rfl) (fun _ _ _ h => h) (Or.inl ⟨by kernel_rfl, ?_⟩) hS ?_
          · intro w5 hSw
            clear hSw hS
            go_simp
          simp only [Act.put, List.setIfInBounds_toArray, List.set_cons_zero, List.set_cons_succ]
          refine wpAnyH_take (i := 3) (oi := { dst := some 62, op := Go.Op.move (Go.Operand.tmp 12), type := 3, pos := "outright.go:177", after := #[{ on := 2, ground := Go.Ground.guard }], guard := some (2, false) }) (v := .int .i64 (lx : Int)) rfl (by kernel_rfl) (by kernel_rfl) (by kernel_rfl) (fun _ _ _ h => h) (Or.inl ⟨by kernel_rfl, ?_⟩) hS ?_
          · intro w5 hSw
            clear hSw hS
            go_simp
          simp only [Act.put, List.setIfInBounds_toArray, List.set_cons_zero, List.set_cons_succ]
          refine wpAnyH_take (i := 4) (oi := { dst := some 63, op := Go.Op.binOp Go.BinOp.lss 3 (Go.Operand.tmp 62) (Go.Operand.const (Go.Value.int Go.IntKind.i64 1)) 3, type := 4, pos := "outright.go:177", after := #[{ on := 3, ground := Go.Ground.data }, { on := 2, ground := Go.Ground.guard }], guard := some (2, false) }) (v := .bool false) rfl (by kernel_rfl) (by kernel_rfl) (by kernel_rfl) (fun _ _ _ h => h) (Or.inl ⟨by kernel_rfl, ?_⟩) hS ?_
          · intro w5 hSw
            clear hSw hS
            go_simp
          simp only [Act.put, List.setIfInBounds_toArray, List.set_cons_zero, List.set_cons_succ]
          refine wpAnyH_take (i := 5) (oi := { dst := some 64, op := Go.Op.pick (Go.Operand.tmp 61) (Go.Operand.const (Go.Value.bool true)) (Go.Operand.tmp 63), type := 4, pos := "outright.go:177", after := #[{ on := 2, ground := Go.Ground.data }, { on := 4, ground := Go.Ground.data }], guard := none }) (v := .bool false) rfl (by kernel_rfl) (by kernel_rfl) (by kernel_rfl) (fun _ _ _ h => h) (Or.inl ⟨by kernel_rfl, ?_⟩) hS ?_
          · intro w5 hSw
            clear hSw hS
            go_simp
          simp only [Act.put, List.setIfInBounds_toArray, List.set_cons_zero, List.set_cons_succ]
          refine wpAnyH_take (i := 6) (oi := { dst := some 65, op := Go.Op.move (Go.Operand.tmp 64), type := 4, pos := "outright.go:177", after := #[{ on := 5, ground := Go.Ground.data }, { on := 2, ground := Go.Ground.chain }], guard := none }) (v := .bool false) rfl (by kernel_rfl) (by kernel_rfl) (by kernel_rfl) (fun _ _ _ h => h) (Or.inl ⟨by kernel_rfl, ?_⟩) hS ?_
          · intro w5 hSw
            clear hSw hS
            go_simp
          simp only [Act.put, List.setIfInBounds_toArray, List.set_cons_zero, List.set_cons_succ]
          refine wpAnyH_take (i := 7) (oi := { dst := some 66, op := Go.Op.move (Go.Operand.tmp 12), type := 3, pos := "outright.go:177", after := #[{ on := 6, ground := Go.Ground.guard }], guard := some (6, false) }) (v := .int .i64 (lx : Int)) rfl (by kernel_rfl) (by kernel_rfl) (by kernel_rfl) (fun _ _ _ h => h) (Or.inl ⟨by kernel_rfl, ?_⟩) hS ?_
          · intro w5 hSw
            clear hSw hS
            go_simp
          simp only [Act.put, List.setIfInBounds_toArray, List.set_cons_zero, List.set_cons_succ]
          refine wpAnyH_take (i := 8) (oi := { dst := some 67, op := Go.Op.move (Go.Operand.tmp 5), type := 22, pos := "outright.go:177", after := #[{ on := 6, ground := Go.Ground.guard }], guard := some (6, false) }) (v := .slice a5 n5 c5) rfl (by kernel_rfl) (by kernel_rfl) (by kernel_rfl) (fun _ _ _ h => h) (Or.inl ⟨by kernel_rfl, ?_⟩) hS ?_
          · intro w5 hSw
            clear hSw hS
            go_simp
          simp only [Act.put, List.setIfInBounds_toArray, List.set_cons_zero, List.set_cons_succ]
          refine wpAnyH_take (i := 9) (oi := { dst := some 68, op := Go.Op.call { callee := Go.Callee.builtin Go.Builtin.len, args := #[Go.Operand.tmp 67], argTypes := #[22] }, type := 3, pos := "outright.go:177", after := #[{ on := 8, ground := Go.Ground.data }, { on := 6, ground := Go.Ground.guard }], guard := some (6, false) }) (v := .int .i64 (n5 : Int)) rfl (by kernel_rfl) (by kernel_rfl) (by kernel_rfl) (fun _ _ _ h => h) (Or.inl ⟨by kernel_rfl, ?_⟩) hS ?_
          · intro w5 hSw
            clear hSw hS
            go_simp
          simp only [Act.put, List.setIfInBounds_toArray, List.set_cons_zero, List.set_cons_succ]
          refine wpAnyH_take (i := 10) (oi := { dst := some 69, op := Go.Op.binOp Go.BinOp.gtr 3 (Go.Operand.tmp 66) (Go.Operand.tmp 68) 3, type := 4, pos := "outright.go:177", after := #[{ on := 7, ground := Go.Ground.data }, { on := 9, ground := Go.Ground.data }, { on := 6, ground := Go.Ground.guard }], guard := some (6, false) }) (v := .bool false) rfl (by kernel_rfl) (by kernel_rfl) (by kernel_rfl) (fun _ _ _ h => h) (Or.inl ⟨by kernel_rfl, ?_⟩) hS ?_
          · intro w5 hSw
            clear hSw hS
            go_simp
          simp only [Act.put, List.setIfInBounds_toArray, List.set_cons_zero, List.set_cons_succ]
          refine wpAnyH_take (i := 11) (oi := { dst := some 70, op := Go.Op.pick (Go.Operand.tmp 65) (Go.Operand.const (Go.Value.bool true)) (Go.Operand.tmp 69), type := 4, pos := "outright.go:177", after := #[{ on := 6, ground := Go.Ground.data }, { on := 10, ground := Go.Ground.data }], guard := none }) (v := .bool false) rfl (by kernel_rfl) (by kernel_rfl) (by kernel_rfl) (fun _ _ _ h => h) (Or.inl ⟨by kernel_rfl, ?_⟩) hS ?_
          · intro w5 hSw
            clear hSw hS
            go_simp
          simp only [Act.put, List.setIfInBounds_toArray, List.set_cons_zero, List.set_cons_succ]
          refine wpAnyH_take (i := 12) (oi := { dst := some 71, op := Go.Op.move (Go.Operand.tmp 70), type := 4, pos := "outright.go:177", after := #[{ on := 11, ground := Go.Ground.data }, { on := 6, ground := Go.Ground.chain }], guard := none }) (v := .bool false) rfl (by kernel_rfl) (by kernel_rfl) (by kernel_rfl) (fun _ _ _ h => h) (Or.inl ⟨by kernel_rfl, ?_⟩) hS ?_
          · intro w5 hSw
            clear hSw hS
            go_simp
          simp only [Act.put, List.setIfInBounds_toArray, List.set_cons_zero, List.set_cons_succ]
          refine wpAnyH_take (i := 13) (oi := { dst := some 72, op := Go.Op.fieldAddr 27 (Go.Operand.tmp 11) 0, type := 0, pos := "outright.go:177", after := #[{ on := 12, ground := Go.Ground.guard }], guard := some (12, false) }) (v := .pointer (some ⟨w9.heap.size, 0, none⟩)) rfl (by kernel_rfl) (by kernel_rfl) (by kernel_rfl) (fun _ _ _ h => h) (Or.inl ⟨by kernel_rfl, ?_⟩) hS ?_
          · intro w5 hSw
            clear hSw hS
            go_simp
          simp only [Act.put, List.setIfInBounds_toArray, List.set_cons_zero, List.set_cons_succ]
          refine wpAnyH_take (i := 14) (oi := { dst := some 73, op := Go.Op.load 9 (Go.Operand.tmp 72), type := 9, pos := "outright.go:177", after := #[{ on := 13, ground := Go.Ground.data }, { on := 12, ground := Go.Ground.guard }], guard := some (12, false) }) (v := .string x.m) rfl (by kernel_rfl) (by kernel_rfl) (by kernel_rfl) (fun _ _ _ h => h) (Or.inl ⟨by kernel_rfl, ?_⟩) hS ?_
          · intro w5 hSw
            have h0 := hSw.1.cell (i := 0) rfl
            clear hSw hS
            go_simp
          simp only [Act.put, List.setIfInBounds_toArray, List.set_cons_zero, List.set_cons_succ]
          refine wpAnyH_take (i := 15) (oi := { dst := some 74, op := Go.Op.move (Go.Operand.tmp 6), type := 47, pos := "outright.go:177", after := #[{ on := 12, ground := Go.Ground.guard }], guard := some (12, false) }) (v := .slice (some ⟨bw, 0, none⟩) K c6) rfl (by kernel_rfl) (by kernel_rfl) (by kernel_rfl) (fun _ _ _ h => h) (Or.inl ⟨by kernel_rfl, ?_⟩) hS ?_
          · intro w5 hSw
            clear hSw hS
            go_simp
          simp only [Act.put, List.setIfInBounds_toArray, List.set_cons_zero, List.set_cons_succ]
          refine wpAnyH_take (i := 16) (oi := { dst := some 75, op := Go.Op.move (Go.Operand.tmp 10), type := 3, pos := "outright.go:177", after := #[{ on := 12, ground := Go.Ground.guard }], guard := some (12, false) }) (v := .int .i64 (k : Int)) rfl (by kernel_rfl) (by kernel_rfl) (by kernel_rfl) (fun _ _ _ h => h) (Or.inl ⟨by kernel_rfl, ?_⟩) hS ?_
          · intro w5 hSw
            clear hSw hS
            go_simp
          simp only [Act.put, List.setIfInBounds_toArray, List.set_cons_zero, List.set_cons_succ]
          refine wpAnyH_take (i := 17) (oi := { dst := some 76, op := Go.Op.indexAddr 47 (Go.Operand.tmp 74) (Go.Operand.tmp 75), type := 0, pos := "outright.go:177", after := #[{ on := 15, ground := Go.Ground.data }, { on := 16, ground := Go.Ground.data }, { on := 12, ground := Go.Ground.guard }], guard := some (12, false) }) (v := .pointer (some ⟨bw, k * 6, none⟩)) rfl (by kernel_rfl) (by kernel_rfl) (by kernel_rfl) (fun _ _ _ h => h) (Or.inl ⟨by kernel_rfl, ?_⟩) hS ?_
          · intro w5 hSw
            clear hSw hS
            exact exec_idxWr0 k hkK rfl rfl rfl
          simp only [Act.put, List.setIfInBounds_toArray, List.set_cons_zero, List.set_cons_succ]
          refine wpAnyH_take (i := 18) (oi := { dst := some 77, op := Go.Op.fieldAddr 27 (Go.Operand.tmp 76) 0, type := 0, pos := "outright.go:177", after := #[{ on := 17, ground := Go.Ground.data }, { on := 12, ground := Go.Ground.guard }], guard := some (12, false) }) (v := .pointer (some ⟨bw, k * 6, none⟩)) rfl (by kernel_rfl) (by kernel_rfl) (by kernel_rfl) (fun _ _ _ h => h) (Or.inl ⟨by kernel_rfl, ?_⟩) hS ?_
          · intro w5 hSw
            clear hSw hS
            go_simp
          simp only [Act.put, List.setIfInBounds_toArray, List.set_cons_zero, List.set_cons_succ]
          refine wpAnyH_take (i := 19) (oi := { dst := some 78, op := Go.Op.load 9 (Go.Operand.tmp 77), type := 9, pos := "outright.go:177", after := #[{ on := 18, ground := Go.Ground.data }, { on := 12, ground := Go.Ground.guard }], guard := some (12, false) }) (v := .string x.m) rfl (by kernel_rfl) (by kernel_rfl) (by kernel_rfl) (fun _ _ _ h => h) (Or.inl ⟨by kernel_rfl, ?_⟩) hS ?_
          · intro w5 hSw
            have h0 := hSw.2.cell (HWc0.out)
            clear hSw hS
            go_simp
          simp only [Act.put, List.setIfInBounds_toArray, List.set_cons_zero, List.set_cons_succ]
          refine wpAnyH_take (i := 20) (oi := { dst := some 79, op := Go.Op.binOp Go.BinOp.neq 9 (Go.Operand.tmp 73) (Go.Operand.tmp 78) 9, type := 4, pos := "outright.go:177", after := #[{ on := 14, ground := Go.Ground.data }, { on := 19, ground := Go.Ground.data }, { on := 12, ground := Go.Ground.guard }], guard := some (12, false) }) (v := .bool false) rfl (by kernel_rfl) (by kernel_rfl) (by kernel_rfl) (fun _ _ _ h => h) (Or.inl ⟨by kernel_rfl, ?_⟩) hS ?_
          · intro w5 hSw
            clear hSw hS
            go_simp
          simp only [Act.put, List.setIfInBounds_toArray, List.set_cons_zero, List.set_cons_succ]
          refine wpAnyH_take (i := 21) (oi := { dst := some 80, op := Go.Op.pick (Go.Operand.tmp 71) (Go.Operand.const (Go.Value.bool true)) (Go.Operand.tmp 79), type := 4, pos := "outright.go:177", after := #[{ on := 12, ground := Go.Ground.data }, { on := 20, ground := Go.Ground.data }], guard := none }) (v := .bool false) rfl (by kernel_rfl) (by kernel_rfl) (by kernel_rfl) (fun _ _ _ h => h) (Or.inl ⟨by kernel_rfl, ?_⟩) hS ?_
          · intro w5 hSw
            clear hSw hS
            go_simp
          simp only [Act.put, List.setIfInBounds_toArray, List.set_cons_zero, List.set_cons_succ]
          refine wpAnyH_take (i := 22) (oi := { dst := some 81, op := Go.Op.move (Go.Operand.tmp 80), type := 4, pos := "outright.go:177", after := #[{ on := 21, ground := Go.Ground.data }, { on := 12, ground := Go.Ground.chain }], guard := none }) (v := .bool false) rfl (by kernel_rfl) (by kernel_rfl) (by kernel_rfl) (fun _ _ _ h => h) (Or.inl ⟨by kernel_rfl, ?_⟩) hS ?_
          · intro w5 hSw
            clear hSw hS
            go_simp
          simp only [Act.put, List.setIfInBounds_toArray, List.set_cons_zero, List.set_cons_succ]
          refine wpAnyH_take (i := 23) (oi := { dst := some 82, op := Go.Op.fieldAddr 27 (Go.Operand.tmp 11) 1, type := 0, pos := "outright.go:177", after := #[{ on := 22, ground := Go.Ground.guard }], guard := some (22, false) }) (v := .pointer (some ⟨w9.heap.size, 1, none⟩)) rfl (by kernel_rfl) (by kernel_rfl) (by kernel_rfl) (fun _ _ _ h => h) (Or.inl ⟨by kernel_rfl, ?_⟩) hS ?_
          · intro w5 hSw
            clear hSw hS
            go_simp
          simp only [Act.put, List.setIfInBounds_toArray, List.set_cons_zero, List.set_cons_succ]
          refine wpAnyH_take (i := 24) (oi := { dst := some 83, op := Go.Op.load 9 (Go.Operand.tmp 82), type := 9, pos := "outright.go:177", after := #[{ on := 23, ground := Go.Ground.data }, { on := 22, ground := Go.Ground.guard }], guard := some (22, false) }) (v := .string x.t) rfl (by kernel_rfl) (by kernel_rfl) (by kernel_rfl) (fun _ _ _ h => h) (Or.inl ⟨by kernel_rfl, ?_⟩) hS ?_
          · intro w5 hSw
            have h0 := hSw.1.cell (i := 1) rfl
            clear hSw hS
            go_simp
          simp only [Act.put, List.setIfInBounds_toArray, List.set_cons_zero, List.set_cons_succ]
          refine wpAnyH_take (i := 25) (oi := { dst := some 84, op := Go.Op.move (Go.Operand.tmp 6), type := 47, pos := "outright.go:177", after := #[{ on := 22, ground := Go.Ground.guard }], guard := some (22, false) }) (v := .slice (some ⟨bw, 0, none⟩) K c6) rfl (by kernel_rfl) (by kernel_rfl) (by kernel_rfl) (fun _ _ _ h => h) (Or.inl ⟨by kernel_rfl, ?_⟩) hS ?_
          · intro w5 hSw
            clear hSw hS
            go_simp
          simp only [Act.put, List.setIfInBounds_toArray, List.set_cons_zero, List.set_cons_succ]
          refine wpAnyH_take (i := 26) (oi := { dst := some 85, op := Go.Op.move (Go.Operand.tmp 10), type := 3, pos := "outright.go:177", after := #[{ on := 22, ground := Go.Ground.guard }], guard := some (22, false) }) (v := .int .i64 (k : Int)) rfl (by kernel_rfl) (by kernel_rfl) (by kernel_rfl) (fun _ _ _ h => h) (Or.inl ⟨by kernel_rfl, ?_⟩) hS ?_
          · intro w5 hSw
            clear hSw hS
            go_simp
          simp only [Act.put, List.setIfInBounds_toArray, List.set_cons_zero, List.set_cons_succ]
          refine wpAnyH_take (i := 27) (oi := { dst := some 86, op := Go.Op.indexAddr 47 (Go.Operand.tmp 84) (Go.Operand.tmp 85), type := 0, pos := "outright.go:177", after := #[{ on := 25, ground := Go.Ground.data }, { on := 26, ground := Go.Ground.data }, { on := 22, ground := Go.Ground.guard }], guard := some (22, false) }) (v := .pointer (some ⟨bw, k * 6, none⟩)) rfl (by kernel_rfl) (by kernel_rfl) (by kernel_rfl) (fun _ _ _ h => h) (Or.inl ⟨by kernel_rfl, ?_⟩) hS ?_
          · intro w5 hSw
            clear hSw hS
            exact exec_idxWr0 k hkK rfl rfl rfl
          simp only [Act.put, List.setIfInBounds_toArray, List.set_cons_zero, List.set_cons_succ]
          refine wpAnyH_take (i := 28) (oi := { dst := some 87, op := Go.Op.fieldAddr 27 (Go.Operand.tmp 86) 1, type := 0, pos := "outright.go:177", after := #[{ on := 27, ground := Go.Ground.data }, { on := 22, ground := Go.Ground.guard }], guard := some (22, false) }) (v := .pointer (some ⟨bw, k * 6 + 1, none⟩)) rfl (by kernel_rfl) (by kernel_rfl) (by kernel_rfl) (fun _ _ _ h => h) (Or.inl ⟨by kernel_rfl, ?_⟩) hS ?_
          · intro w5 hSw
            clear hSw hS
            go_simp
          simp only [Act.put, List.setIfInBounds_toArray, List.set_cons_zero, List.set_cons_succ]
          refine wpAnyH_take (i := 29) (oi := { dst := some 88, op := Go.Op.load 9 (Go.Operand.tmp 87), type := 9, pos := "outright.go:177", after := #[{ on := 28, ground := Go.Ground.data }, { on := 22, ground := Go.Ground.guard }], guard := some (22, false) }) (v := .string x.t) rfl (by kernel_rfl) (by kernel_rfl) (by kernel_rfl) (fun _ _ _ h => h) (Or.inl ⟨by kernel_rfl, ?_⟩) hS ?_
          · intro w5 hSw
            have h0 := hSw.2.cell (HWc1.out)
            clear hSw hS
            go_simp
          simp only [Act.put, List.setIfInBounds_toArray, List.set_cons_zero, List.set_cons_succ]
          refine wpAnyH_take (i := 30) (oi := { dst := some 89, op := Go.Op.binOp Go.BinOp.neq 9 (Go.Operand.tmp 83) (Go.Operand.tmp 88) 9, type := 4, pos := "outright.go:177", after := #[{ on := 24, ground := Go.Ground.data }, { on := 29, ground := Go.Ground.data }, { on := 22, ground := Go.Ground.guard }], guard := some (22, false) }) (v := .bool false) rfl (by kernel_rfl) (by kernel_rfl) (by kernel_rfl) (fun _ _ _ h => h) (Or.inl ⟨by kernel_rfl, ?_⟩) hS ?_
          · intro w5 hSw
            clear hSw hS
            go_simp
          simp only [Act.put, List.setIfInBounds_toArray, List.set_cons_zero, List.set_cons_succ]
          refine wpAnyH_take (i := 31) (oi := { dst := some 90, op := Go.Op.pick (Go.Operand.tmp 81) (Go.Operand.const (Go.Value.bool true)) (Go.Operand.tmp 89), type := 4, pos := "outright.go:177", after := #[{ on := 22, ground := Go.Ground.data }, { on := 30, ground := Go.Ground.data }], guard := none }) (v := .bool false) rfl (by kernel_rfl) (by kernel_rfl) (by kernel_rfl) (fun _ _ _ h => h) (Or.inl ⟨by kernel_rfl, ?_⟩) hS ?_
          · intro w5 hSw
            clear hSw hS
            go_simp
          simp only [Act.put, List.setIfInBounds_toArray, List.set_cons_zero, List.set_cons_succ]
          refine wpAnyH_take (i := 32) (oi := { dst := some 91, op := Go.Op.move (Go.Operand.tmp 90), type := 4, pos := "outright.go:177", after := #[{ on := 31, ground := Go.Ground.data }, { on := 22, ground := Go.Ground.chain }], guard := none }) (v := .bool false) rfl (by kernel_rfl) (by kernel_rfl) (by kernel_rfl) (fun _ _ _ h => h) (Or.inl ⟨by kernel_rfl, ?_⟩) hS ?_
          · intro w5 hSw
            clear hSw hS
            go_simp
          simp only [Act.put, List.setIfInBounds_toArray, List.set_cons_zero, List.set_cons_succ]
          refine wpAnyH_take (i := 33) (oi := { dst := some 92, op := Go.Op.fieldAddr 27 (Go.Operand.tmp 11) 4, type := 0, pos := "outright.go:177", after := #[{ on := 32, ground := Go.Ground.guard }], guard := some (32, false) }) (v := .pointer (some ⟨w9.heap.size, 4, none⟩)) rfl (by kernel_rfl) (by kernel_rfl) (by kernel_rfl) (fun _ _ _ h => h) (Or.inl ⟨by kernel_rfl, ?_⟩) hS ?_
          · intro w5 hSw
            clear hSw hS
            go_simp
          simp only [Act.put, List.setIfInBounds_toArray, List.set_cons_zero, List.set_cons_succ]
          refine wpAnyH_take (i := 34) (oi := { dst := some 93, op := Go.Op.load 22 (Go.Operand.tmp 92), type := 22, pos := "outright.go:177", after := #[{ on := 33, ground := Go.Ground.data }, { on := 32, ground := Go.Ground.guard }], guard := some (32, false) }) (v := .slice aB nB cB) rfl (by kernel_rfl) (by kernel_rfl) (by kernel_rfl) (fun _ _ _ h => h) (Or.inl ⟨by kernel_rfl, ?_⟩) hS ?_
          · intro w5 hSw
            have h0 := hSw.1.cell (i := 4) rfl
            clear hSw hS
            go_simp
          simp only [Act.put, List.setIfInBounds_toArray, List.set_cons_zero, List.set_cons_succ]
          refine wpAnyH_take (i := 35) (oi := { dst := some 94, op := Go.Op.convert 22 9 (Go.Operand.tmp 93), type := 9, pos := "outright.go:177", after := #[{ on := 34, ground := Go.Ground.data }, { on := 32, ground := Go.Ground.guard }], guard := some (32, false) }) (v := .string ⟨x.bd.toArray⟩) rfl (by kernel_rfl) (by kernel_rfl) (by kernel_rfl) (fun _ _ _ h => h) (Or.inl ⟨by kernel_rfl, ?_⟩) hS ?_
          · intro w5 hSw
            have hcv := conv_sb2 (HBp.out.up hSw.2)
            clear hSw hS
            go_simp
          simp only [Act.put, List.setIfInBounds_toArray, List.set_cons_zero, List.set_cons_succ]
          refine wpAnyH_take (i := 36) (oi := { dst := some 95, op := Go.Op.move (Go.Operand.tmp 6), type := 47, pos := "outright.go:177", after := #[{ on := 32, ground := Go.Ground.guard }], guard := some (32, false) }) (v := .slice (some ⟨bw, 0, none⟩) K c6) rfl (by kernel_rfl) (by kernel_rfl) (by kernel_rfl) (fun _ _ _ h => h) (Or.inl ⟨by kernel_rfl, ?_⟩) hS ?_
          · intro w5 hSw
            clear hSw hS
            go_simp
          simp only [Act.put, List.setIfInBounds_toArray, List.set_cons_zero, List.set_cons_succ]
          refine wpAnyH_take (i := 37) (oi := { dst := some 96, op := Go.Op.move (Go.Operand.tmp 10), type := 3, pos := "outright.go:177", after := #[{ on := 32, ground := Go.Ground.guard }], guard := some (32, false) }) (v := .int .i64 (k : Int)) rfl (by kernel_rfl) (by kernel_rfl) (by kernel_rfl) (fun _ _ _ h => h) (Or.inl ⟨by kernel_rfl, ?_⟩) hS ?_
          · intro w5 hSw
            clear hSw hS
            go_simp
          simp only [Act.put, List.setIfInBounds_toArray, List.set_cons_zero, List.set_cons_succ]
          refine wpAnyH_take (i := 38) (oi := { dst := some 97, op := Go.Op.indexAddr 47 (Go.Operand.tmp 95) (Go.Operand.tmp 96), type := 0, pos := "outright.go:177", after := #[{ on := 36, ground := Go.Ground.data }, { on := 37, ground := Go.Ground.data }, { on := 32, ground := Go.Ground.guard }], guard := some (32, false) }) (v := .pointer (some ⟨bw, k * 6, none⟩)) rfl (by kernel_rfl) (by kernel_rfl) (by kernel_rfl) (fun _ _ _ h => h) (Or.inl ⟨by kernel_rfl, ?_⟩) hS ?_
          · intro w5 hSw
            clear hSw hS
            exact exec_idxWr0 k hkK rfl rfl rfl
          simp only [Act.put, List.setIfInBounds_toArray, List.set_cons_zero, List.set_cons_succ]
          refine wpAnyH_take (i := 39) (oi := { dst := some 98, op := Go.Op.fieldAddr 27 (Go.Operand.tmp 97) 4, type := 0, pos := "outright.go:177", after := #[{ on := 38, ground := Go.Ground.data }, { on := 32, ground := Go.Ground.guard }], guard := some (32, false) }) (v := .pointer (some ⟨bw, k * 6 + 4, none⟩)) rfl (by kernel_rfl) (by kernel_rfl) (by kernel_rfl) (fun _ _ _ h => h) (Or.inl ⟨by kernel_rfl, ?_⟩) hS ?_
          · intro w5 hSw
            clear hSw hS
            go_simp
          simp only [Act.put, List.setIfInBounds_toArray, List.set_cons_zero, List.set_cons_succ]
          refine wpAnyH_take (i := 40) (oi := { dst := some 99, op := Go.Op.load 22 (Go.Operand.tmp 98), type := 22, pos := "outright.go:177", after := #[{ on := 39, ground := Go.Ground.data }, { on := 32, ground := Go.Ground.guard }], guard := some (32, false) }) (v := .slice x.aR x.nR x.cR) rfl (by kernel_rfl) (by kernel_rfl) (by kernel_rfl) (fun _ _ _ h => h) (Or.inl ⟨by kernel_rfl, ?_⟩) hS ?_
          · intro w5 hSw
            have h0 := hSw.2.cell (HWc4.out)
            clear hSw hS
            go_simp
          simp only [Act.put, List.setIfInBounds_toArray, List.set_cons_zero, List.set_cons_succ]
          refine wpAnyH_take (i := 41) (oi := { dst := some 100, op := Go.Op.convert 22 9 (Go.Operand.tmp 99), type := 9, pos := "outright.go:177", after := #[{ on := 40, ground := Go.Ground.data }, { on := 32, ground := Go.Ground.guard }], guard := some (32, false) }) (v := .string ⟨x.bd.toArray⟩) rfl (by kernel_rfl) (by kernel_rfl) (by kernel_rfl) (fun _ _ _ h => h) (Or.inl ⟨by kernel_rfl, ?_⟩) hS ?_
          · intro w5 hSw
            have hcv := conv_sb2 (HBx.out.up hSw.2)
            clear hSw hS
            go_simp
          simp only [Act.put, List.setIfInBounds_toArray, List.set_cons_zero, List.set_cons_succ]
          refine wpAnyH_take (i := 42) (oi := { dst := some 101, op := Go.Op.binOp Go.BinOp.neq 9 (Go.Operand.tmp 94) (Go.Operand.tmp 100) 9, type := 4, pos := "outright.go:177", after := #[{ on := 35, ground := Go.Ground.data }, { on := 41, ground := Go.Ground.data }, { on := 32, ground := Go.Ground.guard }], guard := some (32, false) }) (v := .bool false) rfl (by kernel_rfl) (by kernel_rfl) (by kernel_rfl) (fun _ _ _ h => h) (Or.inl ⟨by kernel_rfl, ?_⟩) hS ?_
          · intro w5 hSw
            clear hSw hS
            go_simp
          simp only [Act.put, List.setIfInBounds_toArray, List.set_cons_zero, List.set_cons_succ]
          refine wpAnyH_take (i := 43) (oi := { dst := some 102, op := Go.Op.pick (Go.Operand.tmp 91) (Go.Operand.const (Go.Value.bool true)) (Go.Operand.tmp 101), type := 4, pos := "outright.go:177", after := #[{ on := 32, ground := Go.Ground.data }, { on := 42, ground := Go.Ground.data }], guard := none }) (v := .bool false) rfl (by kernel_rfl) (by kernel_rfl) (by kernel_rfl) (fun _ _ _ h => h) (Or.inl ⟨by kernel_rfl, ?_⟩) hS ?_
          · intro w5 hSw
            clear hSw hS
            go_simp
          simp only [Act.put, List.setIfInBounds_toArray, List.set_cons_zero, List.set_cons_succ]
          have HU11 := Hid.of hS.2
          clear hS
          refine wpAnyH_done (by kernel_rfl) ?_ _
          go_wp2_with (with_reducible show wpList _ _ _ ({ dst := _, op := Op.slice 22 _ _ _ _, type := _, pos := _, after := _, guard := _ } :: _) _ _; refine Shut.out ?_)
          show wpList _ _ _ _ _ _
          refine wpList_val7 (.slice (sv a5 c5 lx) (n5 - lx) (c5 - lx)) rfl (exec_sublo (lo := lx) (by omega) rfl rfl (by rfl)) ?_
          simp only [Act.put, List.setIfInBounds_toArray, List.set_cons_zero, List.set_cons_succ]
          have HUn := Hid.of (Hk10.out.trans HU11.out)
          have HSn := Hid.of (show Sb _ (.slice (sv a5 c5 lx) (n5 - lx) (c5 - lx)) ((xs.drop (k + 1)).flatMap WR.l ++ tl) by
            have h1 := HSs.out.sub lx n5 (by omega) (by rw [← HLn.out]; exact Nat.le_refl _)
            rw [HLn.out, List.take_of_length_le (Nat.le_refl _), ← HLx.out, List.drop_left' rfl, ← HLn.out, ← HRe.out] at h1
            rw [← HLx.out]
            exact h1.up HUn.out)
          go_wp2
          go_roundw
          all_goals first
            | exact ⟨k + 1, by go_num, by omega, n5 - lx, sv a5 c5 lx, c5 - lx, rfl, by omega, Hid.of ⟨HSn.out, HUr.out.trans HUn.out⟩⟩
            | (simp [intOf]; omega)
        · have hkz : ¬ (k : Int) < (K : Int) := by omega
          have HSe := Hid.of (show Sb wr (.slice a5 n5 c5) tl by
            have h1 := HSs.out
            rw [List.drop_of_length_le (by rw [HXn.out]; omega)] at h1
            exact h1)
          have hcv1 := conv_sb2 HSe.out
          have hcv2 := conv_sb2 (HT.out.up (HU8.out.trans HUr.out))
          go_wp2
          go_ret
          exact ⟨rfl, HU8.out.trans HUr.out⟩
end Go.Proofs.YtbgjnghjddcooaaGreatDoor
