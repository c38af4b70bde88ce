import Derived.Test.YtbgjnghjddcooaaGreatDoorK2
import Derived.Test.YtbgjnghjddcooaaGreatDoorK5
import Derived.Test.YtbgjnghjddcooaaGreatDoorSq
import Derived.Laws.Bits64b
import Derived.Lib.ConvBytes
namespace Go.Proofs.YtbgjnghjddcooaaGreatDoor
open Go.RowKit Go.Shelf TextNum
/-- why a response can't be printed -/
def ckr (st mi : Int) (fs : List FD) (nb : Nat) : Option Nat :=
  if 16384 < szs fs then some 1 else if mnr mi = false then some 4 else if sto st = false then some 11 else
    match ckf fs with
    | some k => some k
    | none => if 1048576 < nb then some 7 else if 0 < nb ∧ bdl st = true then some 7 else none
def raF (st : Int) (fs : List FD) (n : Nat) : List FD := if bdl st = true then pfs fs else pfs fs ++ [lnf n]
def raS (st mi : Int) : List UInt8 := vtx mi ++ [32] ++ Go.Lib.itoa st ++ [32] ++ rsn st
def raQ (st mi : Int) (fs : List FD) (bd : List UInt8) : Er (List UInt8) := match ckr st mi (raF st fs bd.length) bd.length with
  | some k => .error k
  | none => .ok (prt (raS st mi) (raF st fs bd.length) bd)
theorem st_facts : ∀ k : Nat, k < 600 → 100 ≤ k → rsO (Go.Lib.itoa (k : Int)) = true ∧ rsN (Go.Lib.itoa (k : Int)) = k ∧ vlu (rsn (k : Int)) = true ∧ (32 : UInt8) ∉ Go.Lib.itoa (k : Int) ∧ (10 : UInt8) ∉ Go.Lib.itoa (k : Int) ∧ (10 : UInt8) ∉ rsn (k : Int) ∧ (rsn (k : Int)).length ≤ 64 ∧ (Go.Lib.itoa (k : Int)).length = 3 := by decide +kernel
theorem sto_nat {st : Int} (h : sto st = true) : ∃ k : Nat, st = (k : Int) ∧ k < 600 ∧ 100 ≤ k := by
  unfold sto at h
  rw [Bool.and_eq_true, decide_eq_true_eq, decide_eq_true_eq] at h
  exact ⟨st.toNat, by omega, by omega, by omega⟩
theorem vtx_32 {mi : Int} (h : mnr mi = true) : (32 : UInt8) ∉ vtx mi ∧ (vtx mi).length = 8 := by
  rcases mnr_or h with rfl | rfl
  · rw [show vtx 0 = [72, 84, 84, 80, 47, 49, 46, 48] by decide +kernel]
    exact ⟨by decide +kernel, rfl⟩
  · rw [show vtx 1 = [72, 84, 84, 80, 47, 49, 46, 49] by decide +kernel]
    exact ⟨by decide +kernel, rfl⟩
theorem rsl_raS {k : Nat} {mi : Int} (hs : sto (k : Int) = true) (hi : mnr mi = true) : rsl (raS (k : Int) mi) = .ok (k, mi) := by
  obtain ⟨j, hj, hj1, hj2⟩ := sto_nat hs
  have hjk : k = j := by omega
  subst hjk
  obtain ⟨f1, f2, f3, f4, f5, f6, f7, f8⟩ := st_facts k hj1 hj2
  obtain ⟨h1, h2, _⟩ := vtx_facts hi
  have e : raS (k : Int) mi = vtx mi ++ 32 :: (Go.Lib.itoa (k : Int) ++ 32 :: rsn (k : Int)) := by simp [raS]
  have k1 := cut_at (vtx mi) (Go.Lib.itoa (k : Int) ++ 32 :: rsn (k : Int)) 32 (vtx_32 hi).1
  have k2 := cut_at (Go.Lib.itoa (k : Int)) (rsn (k : Int)) 32 f4
  have e1 : c1 32 (raS (k : Int) mi) = vtx mi := by unfold c1; rw [e, k1]
  have e2 : c2 32 (raS (k : Int) mi) = Go.Lib.itoa (k : Int) ++ 32 :: rsn (k : Int) := by unfold c2; rw [e, k1]
  have e3 : c1 32 (Go.Lib.itoa (k : Int) ++ 32 :: rsn (k : Int)) = Go.Lib.itoa (k : Int) := by unfold c1; rw [k2]
  have e4 : c2 32 (Go.Lib.itoa (k : Int) ++ 32 :: rsn (k : Int)) = rsn (k : Int) := by unfold c2; rw [k2]
  unfold rsl
  rw [e1, e2, e3, e4, f1, h1, f3, h2, f2, if_neg (by simp)]
  dsimp only
  rw [if_neg (by rw [hs]; simp)]
theorem raS_no {st mi : Int} (hs : sto st = true) (hi : mnr mi = true) : (10 : UInt8) ∉ raS st mi ∧ (raS st mi).length ≤ 100 := by
  obtain ⟨k, rfl, hj1, hj2⟩ := sto_nat hs
  obtain ⟨f1, f2, f3, f4, f5, f6, f7, f8⟩ := st_facts k hj1 hj2
  obtain ⟨_, _, h3⟩ := vtx_facts hi
  obtain ⟨_, h4⟩ := vtx_32 hi
  refine ⟨?_, ?_⟩
  · unfold raS
    simp only [List.mem_append, List.mem_cons, List.not_mem_nil, or_false]
    rintro ((((h | h) | h) | h) | h)
    · exact h3 h
    · revert h; decide
    · exact f5 h
    · revert h; decide
    · exact f6 h
  · unfold raS
    simp only [List.length_append, List.length_cons, List.length_nil]
    omega
theorem cHd_prtP {pl : Nat} {st : List UInt8} {F : List FD} {R : List UInt8} (h10 : (10 : UInt8) ∉ st) (hs : st.length ≤ 8000) (hg : ∀ f ∈ F, mbf f = true) (hl : szs F ≤ 16384) : cHd pl (st ++ 13 :: 10 :: (lbs F ++ 13 :: 10 :: R)) = .ok (st, lbs F, st.length + 2 + ((lbs F).length + 2)) := by
  unfold cHd
  rw [cutL_line h10 hs]
  dsimp only
  have hd : (st ++ 13 :: 10 :: (lbs F ++ 13 :: 10 :: R)).drop (st.length + 2) = lbs F ++ 13 :: 10 :: R := by
    rw [← List.drop_drop, List.drop_left' rfl]
    rfl
  rw [hd, mF_lines hg hl]
  dsimp only
  rw [List.take_left' rfl]
theorem ckr_lt {st mi : Int} {fs : List FD} {nb k : Nat} (h : ckr st mi fs nb = some k) : k < 12 := by
  unfold ckr at h
  repeat' split at h
  all_goals first
    | (cases h; done)
    | (injection h with h; subst h; decide)
    | (injection h with h; subst h; exact ckf_lt (by assumption))
theorem ckr_ok {st mi : Int} {fs : List FD} {nb : Nat} (h : ckr st mi fs nb = none) : szs fs ≤ 16384 ∧ mnr mi = true ∧ sto st = true ∧ ckf fs = none ∧ nb ≤ 1048576 ∧ (bdl st = true → nb = 0) := by
  unfold ckr at h
  repeat' split at h
  all_goals first
    | (cases h; done)
    | skip
  rename_i h1 h2 h3 _ h4 h5 h6
  refine ⟨by omega, by simpa using h2, by simpa using h3, h4, by omega, fun hb => ?_⟩
  rcases Nat.eq_zero_or_pos nb with h | h
  · exact h
  · exact absurd ⟨h, hb⟩ h6
theorem rsF_raF {st mi : Int} {fs : List FD} {n : Nat} (h : n ≤ 1048576) : rsF st (raF st fs n) mi = if bdl st = true then .ok (0, 0) else .ok (2, n) := by
  unfold rsF raF
  by_cases h0 : bdl st = true
  · rw [if_pos h0, if_pos h0]
  · rw [if_neg h0, if_neg h0, if_neg h0]
    have hc := pfs_count fs
    have hi : (pfs fs).any isc = false := by
      rw [List.any_eq_false]
      intro f hf
      rw [tls_isc (pfs_tidy hf).2]
      simp
    have hbd : ∀ F : List FD, F.any isc = false → F.any (bdc mi) = false := by
      intro F hF
      rw [List.any_eq_false] at hF ⊢
      intro f hf
      unfold bdc
      have := hF f hf
      simp only [Bool.not_eq_true] at this
      rw [this]
      simp
    unfold frm
    obtain ⟨k1, k2⟩ := lnf_tls n
    have ha : (pfs fs ++ [lnf n]).any isc = false := by rw [List.any_append, hi]; simp [k2]
    have hcn : (pfs fs ++ [lnf n]).countP tls = 1 := by rw [List.countP_append, hc]; simp [k1]
    rw [hbd _ ha, ha, hcn, if_neg (by simp), if_neg (by omega), if_neg (by omega), if_neg (by simp), lst_yes k1]
    exact frl_itoa h
theorem rsP_prt {st mi : Int} {fs : List FD} {bd : List UInt8} (h : ckr st mi (raF st fs bd.length) bd.length = none) (tl : List UInt8) :
    rsP (prt (raS st mi) (raF st fs bd.length) bd ++ tl) = .ok ((⟨st.toNat, mi, raF st fs bd.length⟩, cls (mi == 0) (raF st fs bd.length), bd), (prt (raS st mi) (raF st fs bd.length) bd).length) := by
  obtain ⟨h2, h3, h4, h5, h6, h7⟩ := ckr_ok h
  obtain ⟨f1, f2⟩ := ckf_none h5
  have hg : ∀ f ∈ raF st fs bd.length, gud f := by
    intro f hf
    refine ⟨f2 f hf, ?_⟩
    unfold raF at hf
    split at hf
    · exact (pfs_tidy hf).1
    · rcases List.mem_append.1 hf with hf | hf
      · exact (pfs_tidy hf).1
      · rw [List.mem_singleton.1 hf]
        exact (lnf_gud _).2
  have hfr := rsF_raF (st := st) (fs := fs) (mi := mi) h6
  generalize raF st fs bd.length = F at *
  obtain ⟨hno, hsl⟩ := raS_no h4 h3
  obtain ⟨k, rfl, _, _⟩ := sto_nat h4
  have hrl := rsl_raS h4 h3
  have e : prt (raS (k : Int) mi) F bd ++ tl = raS (k : Int) mi ++ 13 :: 10 :: (lbs F ++ 13 :: 10 :: (bd ++ tl)) := by simp [prt]
  have el : (prt (raS (k : Int) mi) F bd).length = (raS (k : Int) mi).length + 2 + ((lbs F).length + 2) + bd.length := by
    simp only [prt, List.length_append, List.length_cons, List.length_nil]
    omega
  rw [el]
  generalize raS (k : Int) mi = s at *
  have hd : (s ++ 13 :: 10 :: (lbs F ++ 13 :: 10 :: (bd ++ tl))).drop (s.length + 2 + ((lbs F).length + 2)) = bd ++ tl := by
    have e2 : s ++ 13 :: 10 :: (lbs F ++ 13 :: 10 :: (bd ++ tl)) = (s ++ 13 :: 10 :: (lbs F ++ [13, 10])) ++ (bd ++ tl) := by simp
    rw [e2]
    refine List.drop_left' ?_
    simp only [List.length_append, List.length_cons, List.length_nil]
    omega
  unfold rsP msg
  rw [e, cHd_prtP hno (by omega) f2 h2]
  dsimp only
  have hrg : rsg s (lbs F) = .ok (⟨k, mi, F⟩, if bdl (k : Int) = true then 0 else 2, bd.length) := by
    unfold rsg
    rw [hrl]
    dsimp only
    rw [rdf_lbs hg f1]
    dsimp only
    rw [hfr]
    by_cases hb : bdl (k : Int) = true
    · rw [if_pos hb, if_pos hb, h7 hb]
    · rw [if_neg hb, if_neg hb]
  rw [hrg]
  dsimp only
  rw [hd]
  have hfc : fcu (if bdl (k : Int) = true then 0 else 2) bd.length (bd ++ tl) = .ok (bd, bd.length) := by
    split
    · rename_i hb
      have h0 : bd = [] := List.eq_nil_of_length_eq_zero (h7 hb)
      subst h0
      unfold fcu
      rw [if_neg (by decide), if_neg (by decide), if_neg (by decide)]
      rfl
    · unfold fcu
      rw [if_neg (by decide), if_neg (by decide), if_pos rfl, if_neg (by simp), List.take_left' rfl]
  rw [hfc]
  dsimp only
  have hw : ((if bdl (k : Int) = true then (0 : Int) else 2) == 1) = false := by split <;> rfl
  rw [hw, Bool.false_or, Int.toNat_natCast]
theorem rsP_pre {l : List UInt8} {x : Rs} {cl : Bool} {b : List UInt8} {way : Int} {n : Nat} (h : rsP l = .ok ((x, cl, b), l.length)) (hF : rsF (x.st : Int) x.fs x.mi = .ok (way, n)) (hw : way ≠ 1) {i : Nat} (hi : i < l.length) : rsP (l.take i) = .error 2 := by
  have e := List.take_append_drop i l
  have hl : (l.take i).length = i := by rw [List.length_take]; omega
  cases hc : rsP (l.take i) with
  | error k =>
    by_cases hk : k = 2
    · rw [hk]
    · have h1 : rsP (l.take i ++ l.drop i) = .error k := msg_er hc hk
      rw [e, h] at h1
      cases h1
  | ok q =>
    obtain ⟨y, m⟩ := q
    obtain ⟨st, fl, k, x', way', len, b', h1, h2, h3, h4, h5, h6, h7, h8, h9⟩ := msg_ok hc
    have h10 := h9 (l.drop i)
    rw [e] at h10
    obtain ⟨b2, hb2⟩ := h10.2 _ _ h
    have hx : x = x' := by injection hb2
    subst hx
    have h11 := (rsg_ok h2).2.2
    rw [hF] at h11
    have hww : way = way' := by injection h11 with h11; injection h11
    subst hww
    have h12 : rsP l = .ok (y, m) := h10.1 hw
    rw [h] at h12
    injection h12 with h12
    injection h12 with _ h12
    omega
theorem raQ_er {st mi : Int} {fs : List FD} {bd : List UInt8} {k : Nat} (h : raQ st mi fs bd = .error k) : (nums k != 0) = true := by
  have hk : k < 12 := by
    unfold raQ at h
    cases hc : ckr st mi (raF st fs bd.length) bd.length with
    | some j => rw [hc] at h; injection h with h; rw [← h]; exact ckr_lt hc
    | none => rw [hc] at h; cases h
  have : ∀ k, k < 12 → (nums k != 0) = true := by decide +kernel
  exact this k hk
theorem raQ_ok {st mi : Int} {fs : List FD} {bd l : List UInt8} (h : raQ st mi fs bd = .ok l) : ckr st mi (raF st fs bd.length) bd.length = none ∧ l = prt (raS st mi) (raF st fs bd.length) bd := by
  unfold raQ at h
  cases hc : ckr st mi (raF st fs bd.length) bd.length with
  | some j => rw [hc] at h; cases h
  | none => rw [hc] at h; injection h with h; exact ⟨rfl, h.symm⟩
theorem szs_raF (st : Int) (fs : List FD) (n : Nat) (h : n ≤ 1099511627776) : szs (raF st fs n) ≤ szs fs + 128 := by
  have h1 := szs_pfs fs
  unfold raF
  split
  · omega
  · rw [szs_snoc]
    have h2 : szf (lnf n) ≤ 128 := by
      have h3 := itoa_len (n : Int) (by omega) (by omega)
      have h4 : (⟨(Go.Lib.itoa (n : Int)).toArray⟩ : ByteArray).size = (Go.Lib.itoa (n : Int)).length := by simp [ByteArray.size]
      have h5 : ctlN.size = 14 := rfl
      unfold szf lnf
      dsimp only
      omega
    omega
end Go.Proofs.YtbgjnghjddcooaaGreatDoor
namespace Go.Proofs.YtbgjnghjddcooaaGreatDoor
open Go.RowKit Go.Shelf TextNum
theorem rqP_pre {l : List UInt8} {x : Rq} {b : List UInt8} (h : rqP l = .ok ((x, b), l.length)) {i : Nat} (hi : i < l.length) : rqP (l.take i) = .error 2 := by
  have e := List.take_append_drop i l
  have hl : (l.take i).length = i := by rw [List.length_take]; omega
  cases hc : rqP (l.take i) with
  | error k =>
    by_cases hk : k = 2
    · rw [hk]
    · have h1 : rqP (l.take i ++ l.drop i) = .error k := msg_er hc hk
      rw [e, h] at h1
      cases h1
  | ok q =>
    obtain ⟨⟨y, c⟩, n⟩ := q
    obtain ⟨h1, h2⟩ := rqP_ok hc (l.drop i)
    rw [e, h] at h1
    injection h1 with h1
    injection h1 with _ h1
    omega
theorem parse_short (ad : Nat → Addr) {a : Option Addr} {n c : Nat} {ds : List UInt8} (hn40 : n ≤ 1099511627776) (w : World) (hS : Sb w (.slice a n c) ds) (hW : GW w ad) (h : rqP ds = .error 2) :
    Calls Tryz.prog 11 #[.slice a n c] w fun e w' => e = .returned (.tuple #[.agg #[.string ⟨#[]⟩, .string ⟨#[]⟩, .int .i64 0, .slice none 0 0, .slice none 0 0, .bool false], .int .i64 0, .int .i64 140]) ∧ Up w w' := by
  refine (ParseRequest_walk ad hn40 w hS hW).mono ?_
  rintro e w' ⟨hR, hU⟩
  rw [h] at hR
  exact ⟨hR, hU⟩
set_option maxRecDepth 100000 in
set_option maxHeartbeats 2000000 in
theorem short_walk (ad : Nat → Addr) {a : Option Addr} {n c : Nat} {ds : List UInt8} (at' : Int) (hn40 : n ≤ 1099511627776) (hn : 0 < n) (w : World) (hS : Sb w (.slice a n c) ds) (hW : GW w ad) (hP : ∀ i, i < n → rqP (ds.take i) = .error 2) :
    Calls Tryz.prog 24 #[.slice a n c, .int .i64 at'] w fun e w' => e = .returned (.bool true) ∧ Up w w' := by
  obtain ⟨hnd, hnc, hcm⟩ := hS.len
  unfold maxLen at hcm
  subst hnd
  have HSb := Hid.of hS
  have HW := Hid.of hW
  have HPs := Hid.of (fun i (hi : i < ds.length) (w2 : World) (hU : Up w w2) => parse_short ad (a := a) (n := i) (c := c) (by omega) w2 ((hS.take i (by omega)).up hU) (hW.up hU) (hP i hi))
  obtain ⟨n, hnn⟩ : ∃ n, ds.length = n := ⟨_, rfl⟩
  rw [hnn] at HPs hn40 hn hnc ⊢
  clear hS hW hP hnn HSb
  go_enter Tryz.func24, Tryz.ntmps24
  go_wp2
  have hst : (n : Int) / 200 + 1 = ((n / 200 + 1 : Nat) : Int) := by omega
  have hs1 : 1 ≤ n / 200 + 1 := by omega
  have hs2 : n / 200 + 1 ≤ n + 1 := by omega
  rw [hst]
  clear hst
  generalize n / 200 + 1 = st at *
  go_loopw [6] (fun v6 wr => ∃ k : Nat, v6 = .int .i64 (k : Int) ∧ k ≤ 3 * n + 3 ∧ Hid (Up w wr)) (fun v6 _ => n - (intOf v6).toNat)
  case atStart => exact ⟨0, rfl, Nat.zero_le _, Hid.of (Up.refl _)⟩
  case round =>
    obtain ⟨k, rfl, hk, hU⟩ := hrel
    have HU := Hid.of hU.out
    clear hU
    by_cases hkn : k < n
    · have hkz : (k : Int) < (n : Int) := by omega
      have HC := Hid.of (HPs.out k hkn wr HU.out)
      go_wp2_with (with_reducible show wpList _ _ _ ({ dst := _, op := Op.slice 22 _ _ _ _, type := _, pos := _, after := _, guard := _ } :: _) _ _; refine Shut.out ?_)
      show wpList _ _ _ _ _ _
      refine wpList_val7 (.slice a k c) rfl (exec_subhi (by omega) rfl rfl rfl) ?_
      simp only [Act.put, List.setIfInBounds_toArray, List.set_cons_zero, List.set_cons_succ]
      go_wp2_with fail
      refine HC.out.mono ?_
      rintro e w2 ⟨rfl, h9⟩
      have HU2 := Hid.of ((HU.out.trans h9).alloc (.cells #[.string ⟨#[]⟩, .string ⟨#[]⟩, .int .i64 0, .slice none 0 0, .slice none 0 0, .bool false] 27))
      clear h9
      dsimp only
      go_wp2
      go_roundw
      all_goals first
        | exact ⟨k + st, by go_num, by omega, Hid.of HU2.out⟩
        | (simp [intOf]; omega)
    · have hkz : ¬ (k : Int) < (n : Int) := by omega
      obtain ⟨j, hj, hjn⟩ : ∃ j : Nat, (wrap64 (at'.tmod (n : Int) + (n : Int))).tmod (n : Int) = (j : Int) ∧ j < n := by
        have hn0 : (0 : Int) < (n : Int) := by omega
        have t1 := Int.tmod_lt_of_pos at' hn0
        have t2 := Int.lt_tmod_of_pos at' hn0
        have e : wrap64 (at'.tmod (n : Int) + (n : Int)) = at'.tmod (n : Int) + (n : Int) := by
          have h3 := IntWalk.i64_left (at'.tmod (n : Int) + (n : Int))
          rw [← h3]
          exact IntWalk.i64_in _ (by omega)
        rw [e]
        have t3 := Int.tmod_lt_of_pos (at'.tmod (n : Int) + (n : Int)) hn0
        have t4 : 0 ≤ (at'.tmod (n : Int) + (n : Int)).tmod (n : Int) := Int.tmod_nonneg _ (by omega)
        exact ⟨((at'.tmod (n : Int) + (n : Int)).tmod (n : Int)).toNat, by omega, by omega⟩
      have HC := Hid.of (HPs.out j hjn wr HU.out)
      have HJ := Hid.of hj
      clear hj
      go_wp2_with (with_reducible show wpList _ _ _ ({ dst := _, op := Op.slice 22 _ _ _ _, type := _, pos := _, after := _, guard := _ } :: _) _ _; refine Shut.out ?_)
      show wpList _ _ _ _ _ _
      rw [HJ.out]
      refine wpList_val7 (.slice a j c) rfl (exec_subhi (by omega) rfl rfl rfl) ?_
      simp only [Act.put, List.setIfInBounds_toArray, List.set_cons_zero, List.set_cons_succ]
      go_wp2_with fail
      refine HC.out.mono ?_
      rintro e w2 ⟨rfl, h9⟩
      have HU2 := Hid.of ((HU.out.trans h9).alloc (.cells #[.string ⟨#[]⟩, .string ⟨#[]⟩, .int .i64 0, .slice none 0 0, .slice none 0 0, .bool false] 27))
      clear h9
      dsimp only
      go_wp2
      go_ret
      exact ⟨rfl, HU2.out⟩
end Go.Proofs.YtbgjnghjddcooaaGreatDoor
namespace Go.Proofs.YtbgjnghjddcooaaGreatDoor
open Go.RowKit Go.Shelf TextNum
theorem trm_front {b : UInt8} {l : List UInt8} (h : blk b = true) : trm (b :: l) = trm l := by
  rw [trm_def, trm_def, List.reverse_cons, List.dropWhile_append]
  split
  · rename_i he
    have e : l.reverse.dropWhile blk = [] := by simpa using he
    rw [e, List.dropWhile_cons, h]
    rfl
  · rw [List.reverse_append]
    show (b :: (l.reverse.dropWhile blk).reverse).dropWhile blk = _
    rw [List.dropWhile_cons, h]
    rfl
theorem trm_back {b : UInt8} {l : List UInt8} (h : blk b = true) : trm (l ++ [b]) = trm l := by
  rw [trm_def, trm_def, List.reverse_append]
  show ((b :: l.reverse).dropWhile blk).reverse.dropWhile blk = _
  rw [List.dropWhile_cons, h]
  rfl
theorem blk_iff (b : UInt8) : blk b = (b == 32 || b == 9) := by
  unfold blk bks
  simp [List.contains, List.elem]
  cases (b == 32) <;> cases (b == 9) <;> rfl
theorem blk_yes32 {x : UInt8} (h : ((x.toNat : Int) == 32) = true) : blk x = true := by
  have h1 := eq_of_beq h
  have h2 : x = 32 := UInt8.toNat_inj.1 (by show x.toNat = 32; omega)
  rw [h2]
  decide
theorem blk_yes9 {x : UInt8} (h : ((x.toNat : Int) == 9) = true) : blk x = true := by
  have h1 := eq_of_beq h
  have h2 : x = 9 := UInt8.toNat_inj.1 (by show x.toNat = 9; omega)
  rw [h2]
  decide
theorem blk_no {x : UInt8} (h : ((x.toNat : Int) == 32) = false) (h9 : ((x.toNat : Int) == 9) = false) : blk x = false := by
  rw [blk_iff]
  rw [beq_eq_false_iff_ne] at h h9
  have a : (x == 32) = false := by rw [beq_eq_false_iff_ne]; rintro rfl; exact h rfl
  have b : (x == 9) = false := by rw [beq_eq_false_iff_ne]; rintro rfl; exact h9 rfl
  rw [a, b]
  rfl
theorem extr_drop (s : ByteArray) (k : Nat) : (s.extract k s.size).data.toList = s.data.toList.drop k := by
  have hz : s.size = s.data.toList.length := Go.Lib.size_eq s
  rw [ByteArray.data_extract, Array.toList_extract, List.extract_eq_drop_take', List.take_of_length_le (by rw [← hz]; exact Nat.le_refl _)]
theorem extr_take (s : ByteArray) (k : Nat) : (s.extract 0 k).data.toList = s.data.toList.take k := by
  rw [ByteArray.data_extract, Array.toList_extract, List.extract_eq_drop_take', List.drop_zero]
set_option maxRecDepth 100000 in
set_option maxHeartbeats 2000000 in
theorem trimmed_walk (s : ByteArray) (hs : s.size ≤ 1099511627776) (w : World) : Calls Tryz.prog 41 #[.string s] w fun e w' => e = .returned (vs (trm s.data.toList)) ∧ w' = w := by
  obtain ⟨r, hr⟩ : ∃ r, trm s.data.toList = r := ⟨_, rfl⟩
  have HR := Hid.of hr
  rw [hr]
  clear hr
  go_enter Tryz.func41, Tryz.ntmps41
  go_wp2
  go_loopw [0] (fun v0 wr => ∃ s' : ByteArray, v0 = .string s' ∧ s'.size ≤ 1099511627776 ∧ Hid (wr = w ∧ trm s'.data.toList = r)) (fun v0 _ => szOf v0)
  case atStart => exact ⟨s, rfl, hs, Hid.of ⟨rfl, HR.out⟩⟩
  case round =>
    obtain ⟨s', rfl, hs', hQ⟩ := hrel
    have HQ := Hid.of hQ.out
    clear hQ HR
    have HZ := Hid.of (Go.Lib.size_eq s')
    by_cases h0 : 0 < s'.size
    · have h0z : (0 : Int) < (s'.size : Int) := by omega
      have hg := sget' s' 0 h0
      have HE0 : s'.data.toList = s'.data.toList[0]'(by have := HZ.out; omega) :: s'.data.toList.drop 1 := by
        rw [List.getElem_cons_drop, List.drop_zero]
      generalize s'.data.toList[0]'(by have := HZ.out; omega) = x at hg HE0
      have HE := Hid.of HE0
      clear HE0
      cases h32 : ((x.toNat : Int) == 32) with
      | true =>
        have HBk := Hid.of (blk_yes32 h32)
        have HD := Hid.of (show trm (s'.extract 1 s'.size).data.toList = r by
          rw [extr_drop]
          have h1 := HQ.out.2
          rw [HE.out, trm_front HBk.out] at h1
          exact h1)
        have HSz := Hid.of (show (s'.extract 1 s'.size).size = s'.size - 1 by rw [ByteArray.size_extract]; omega)
        go_wp2
        go_roundw
        all_goals first
          | exact ⟨_, rfl, by rw [HSz.out]; omega, Hid.of ⟨HQ.out.1, HD.out⟩⟩
          | (show (s'.extract 1 s'.size).size < s'.size; rw [HSz.out]; omega)
          | (simp [szOf]; omega)
      | false =>
        cases h9 : ((x.toNat : Int) == 9) with
        | true =>
          have HBk := Hid.of (blk_yes9 h9)
          have HD := Hid.of (show trm (s'.extract 1 s'.size).data.toList = r by
            rw [extr_drop]
            have h1 := HQ.out.2
            rw [HE.out, trm_front HBk.out] at h1
            exact h1)
          have HSz := Hid.of (show (s'.extract 1 s'.size).size = s'.size - 1 by rw [ByteArray.size_extract]; omega)
          go_wp2
          go_roundw
          all_goals first
            | exact ⟨_, rfl, by rw [HSz.out]; omega, Hid.of ⟨HQ.out.1, HD.out⟩⟩
            | (show (s'.extract 1 s'.size).size < s'.size; rw [HSz.out]; omega)
            | (simp [szOf]; omega)
        | false =>
          have HD0 := Hid.of (show ∀ y, s'.data.toList.head? = some y → blk y = false by
            intro y hy
            rw [HE.out] at hy
            injection hy with hy
            rw [← hy]
            exact blk_no h32 h9)
          go_wp2
          go_loopw [0] (fun v0 wr => ∃ s2 : ByteArray, v0 = .string s2 ∧ s2.size ≤ 1099511627776 ∧ Hid (wr = w ∧ trm s2.data.toList = r ∧ ∀ x, s2.data.toList.head? = some x → blk x = false)) (fun v0 _ => szOf v0)
          case atStart => exact ⟨s', rfl, hs', Hid.of ⟨HQ.out.1, HQ.out.2, HD0.out⟩⟩
          case round =>
            obtain ⟨s2, rfl, hs2, hQ2⟩ := hrel
            have HQ2 := Hid.of hQ2.out
            clear hQ2
            by_cases h0 : 0 < s2.size
            · have h0z : (0 : Int) < (s2.size : Int) := by omega
              have hg := sget' s2 (s2.size - 1) (by omega)
              have HZ2 := Hid.of (Go.Lib.size_eq s2)
              have HE0 : s2.data.toList = s2.data.toList.take (s2.size - 1) ++ [s2.data.toList[s2.size - 1]'(by have := HZ2.out; omega)] := by
                rw [← List.take_succ_eq_append_getElem, List.take_of_length_le (by have := HZ2.out; omega)]
              generalize s2.data.toList[s2.size - 1]'(by have := HZ2.out; omega) = x at hg HE0
              have HE := Hid.of HE0
              clear HE0
              have hsub : (s2.size : Int) - 1 = ((s2.size - 1 : Nat) : Int) := by omega
              cases h32 : ((x.toNat : Int) == 32) with
              | true =>
                have HBk := Hid.of (blk_yes32 h32)
                have HD := Hid.of (show trm (s2.extract 0 (s2.size - 1)).data.toList = r by
                  rw [extr_take]
                  have h1 := HQ2.out.2.1
                  rw [HE.out, trm_back HBk.out] at h1
                  exact h1)
                have HH := Hid.of (show ∀ x, (s2.extract 0 (s2.size - 1)).data.toList.head? = some x → blk x = false by
                  intro y hy
                  rw [extr_take] at hy
                  refine HQ2.out.2.2 y ?_
                  rw [HE.out]
                  cases hl : s2.data.toList.take (s2.size - 1) with
                  | nil => rw [hl] at hy; cases hy
                  | cons a b => rw [hl] at hy; exact hy)
                have HSz := Hid.of (show (s2.extract 0 (s2.size - 1)).size = s2.size - 1 by rw [ByteArray.size_extract]; omega)
                go_wp2
                go_roundw
                all_goals first
                  | exact ⟨_, rfl, by rw [HSz.out]; omega, Hid.of ⟨HQ2.out.1, HD.out, HH.out⟩⟩
                  | (show s2.size - 0 = 0; omega)
                  | (show (s2.extract 0 (s2.size - 1)).size < s2.size; rw [HSz.out]; omega)
                  | (simp [szOf]; omega)
              | false =>
                cases h9 : ((x.toNat : Int) == 9) with
                | true =>
                  have HBk := Hid.of (blk_yes9 h9)
                  have HD := Hid.of (show trm (s2.extract 0 (s2.size - 1)).data.toList = r by
                    rw [extr_take]
                    have h1 := HQ2.out.2.1
                    rw [HE.out, trm_back HBk.out] at h1
                    exact h1)
                  have HH := Hid.of (show ∀ x, (s2.extract 0 (s2.size - 1)).data.toList.head? = some x → blk x = false by
                    intro y hy
                    rw [extr_take] at hy
                    refine HQ2.out.2.2 y ?_
                    rw [HE.out]
                    cases hl : s2.data.toList.take (s2.size - 1) with
                    | nil => rw [hl] at hy; cases hy
                    | cons a b => rw [hl] at hy; exact hy)
                  have HSz := Hid.of (show (s2.extract 0 (s2.size - 1)).size = s2.size - 1 by rw [ByteArray.size_extract]; omega)
                  go_wp2
                  go_roundw
                  all_goals first
                    | exact ⟨_, rfl, by rw [HSz.out]; omega, Hid.of ⟨HQ2.out.1, HD.out, HH.out⟩⟩
                    | (show s2.size - 0 = 0; omega)
                    | (show (s2.extract 0 (s2.size - 1)).size < s2.size; rw [HSz.out]; omega)
                    | (simp [szOf]; omega)
                | false =>
                  have HT := Hid.of (show s2.data.toList = r by
                    have h1 := HQ2.out.2.1
                    rw [trm_id ⟨HQ2.out.2.2, fun y hy => ?_⟩] at h1
                    · exact h1
                    · rw [HE.out, List.getLast?_concat] at hy
                      injection hy with hy
                      rw [← hy]
                      exact blk_no h32 h9)
                  go_wp2
                  go_ret
                  rw [← HT.out, vs_data']
                  exact ⟨rfl, HQ2.out.1⟩
            · have h0z : ¬ (0 : Int) < (s2.size : Int) := by omega
              have HT := Hid.of (show s2.data.toList = r by
                have h1 := HQ2.out.2.1
                have h2 : s2.data.toList = [] := List.eq_nil_of_length_eq_zero (by rw [← Go.Lib.size_eq]; omega)
                rw [h2] at h1 ⊢
                exact h1)
              go_wp2
              go_ret
              rw [← HT.out, vs_data']
              exact ⟨rfl, HQ2.out.1⟩
    · have h0z : ¬ (0 : Int) < (s'.size : Int) := by omega
      have HD0 := Hid.of (show ∀ y, s'.data.toList.head? = some y → blk y = false by
        intro y hy
        rw [List.eq_nil_of_length_eq_zero (show s'.data.toList.length = 0 by have := HZ.out; omega)] at hy
        cases hy)
      go_wp2
      go_loopw [0] (fun v0 wr => ∃ s2 : ByteArray, v0 = .string s2 ∧ s2.size ≤ 1099511627776 ∧ Hid (wr = w ∧ trm s2.data.toList = r ∧ ∀ x, s2.data.toList.head? = some x → blk x = false)) (fun v0 _ => szOf v0)
      case atStart => exact ⟨s', rfl, hs', Hid.of ⟨HQ.out.1, HQ.out.2, HD0.out⟩⟩
      case round =>
        obtain ⟨s2, rfl, hs2, hQ2⟩ := hrel
        have HQ2 := Hid.of hQ2.out
        clear hQ2
        by_cases h0 : 0 < s2.size
        · have h0z : (0 : Int) < (s2.size : Int) := by omega
          have hg := sget' s2 (s2.size - 1) (by omega)
          have HZ2 := Hid.of (Go.Lib.size_eq s2)
          have HE0 : s2.data.toList = s2.data.toList.take (s2.size - 1) ++ [s2.data.toList[s2.size - 1]'(by have := HZ2.out; omega)] := by
            rw [← List.take_succ_eq_append_getElem, List.take_of_length_le (by have := HZ2.out; omega)]
          generalize s2.data.toList[s2.size - 1]'(by have := HZ2.out; omega) = x at hg HE0
          have HE := Hid.of HE0
          clear HE0
          have hsub : (s2.size : Int) - 1 = ((s2.size - 1 : Nat) : Int) := by omega
          cases h32 : ((x.toNat : Int) == 32) with
          | true =>
            have HBk := Hid.of (blk_yes32 h32)
            have HD := Hid.of (show trm (s2.extract 0 (s2.size - 1)).data.toList = r by
              rw [extr_take]
              have h1 := HQ2.out.2.1
              rw [HE.out, trm_back HBk.out] at h1
              exact h1)
            have HH := Hid.of (show ∀ x, (s2.extract 0 (s2.size - 1)).data.toList.head? = some x → blk x = false by
              intro y hy
              rw [extr_take] at hy
              refine HQ2.out.2.2 y ?_
              rw [HE.out]
              cases hl : s2.data.toList.take (s2.size - 1) with
              | nil => rw [hl] at hy; cases hy
              | cons a b => rw [hl] at hy; exact hy)
            have HSz := Hid.of (show (s2.extract 0 (s2.size - 1)).size = s2.size - 1 by rw [ByteArray.size_extract]; omega)
            go_wp2
            go_roundw
            all_goals first
              | exact ⟨_, rfl, by rw [HSz.out]; omega, Hid.of ⟨HQ2.out.1, HD.out, HH.out⟩⟩
              | (show s2.size - 0 = 0; omega)
              | (show (s2.extract 0 (s2.size - 1)).size < s2.size; rw [HSz.out]; omega)
              | (simp [szOf]; omega)
          | false =>
            cases h9 : ((x.toNat : Int) == 9) with
            | true =>
              have HBk := Hid.of (blk_yes9 h9)
              have HD := Hid.of (show trm (s2.extract 0 (s2.size - 1)).data.toList = r by
                rw [extr_take]
                have h1 := HQ2.out.2.1
                rw [HE.out, trm_back HBk.out] at h1
                exact h1)
              have HH := Hid.of (show ∀ x, (s2.extract 0 (s2.size - 1)).data.toList.head? = some x → blk x = false by
                intro y hy
                rw [extr_take] at hy
                refine HQ2.out.2.2 y ?_
                rw [HE.out]
                cases hl : s2.data.toList.take (s2.size - 1) with
                | nil => rw [hl] at hy; cases hy
                | cons a b => rw [hl] at hy; exact hy)
              have HSz := Hid.of (show (s2.extract 0 (s2.size - 1)).size = s2.size - 1 by rw [ByteArray.size_extract]; omega)
              go_wp2
              go_roundw
              all_goals first
                | exact ⟨_, rfl, by rw [HSz.out]; omega, Hid.of ⟨HQ2.out.1, HD.out, HH.out⟩⟩
                | (show s2.size - 0 = 0; omega)
                | (show (s2.extract 0 (s2.size - 1)).size < s2.size; rw [HSz.out]; omega)
                | (simp [szOf]; omega)
            | false =>
              have HT := Hid.of (show s2.data.toList = r by
                have h1 := HQ2.out.2.1
                rw [trm_id ⟨HQ2.out.2.2, fun y hy => ?_⟩] at h1
                · exact h1
                · rw [HE.out, List.getLast?_concat] at hy
                  injection hy with hy
                  rw [← hy]
                  exact blk_no h32 h9)
              go_wp2
              go_ret
              rw [← HT.out, vs_data']
              exact ⟨rfl, HQ2.out.1⟩
        · have h0z : ¬ (0 : Int) < (s2.size : Int) := by omega
          have HT := Hid.of (show s2.data.toList = r by
            have h1 := HQ2.out.2.1
            have h2 : s2.data.toList = [] := List.eq_nil_of_length_eq_zero (by rw [← Go.Lib.size_eq]; omega)
            rw [h2] at h1 ⊢
            exact h1)
          go_wp2
          go_ret
          rw [← HT.out, vs_data']
          exact ⟨rfl, HQ2.out.1⟩
end Go.Proofs.YtbgjnghjddcooaaGreatDoor
namespace Go.Proofs.YtbgjnghjddcooaaGreatDoor
open Go.RowKit Go.Shelf TextNum
def clw : ByteArray := ⟨#[99, 111, 110, 116, 101, 110, 116, 45, 108, 101, 110, 103, 116, 104]⟩
def tew : ByteArray := ⟨#[116, 114, 97, 110, 115, 102, 101, 114, 45, 101, 110, 99, 111, 100, 105, 110, 103]⟩
theorem kep_lws (f : FD) : kep f = !(lws f.n.data.toList == clw.data.toList || lws f.n.data.toList == tew.data.toList) := by
  unfold kep kdf kdp
  generalize lws f.n.data.toList = x
  by_cases h1 : x = lws (kdT.getD 0 (⟨#[]⟩, 0)).1.data.toList
  · subst h1; decide +kernel
  · by_cases h2 : x = lws (kdT.getD 1 (⟨#[]⟩, 0)).1.data.toList
    · subst h2; decide +kernel
    · by_cases h3 : x = lws (kdT.getD 2 (⟨#[]⟩, 0)).1.data.toList
      · subst h3; decide +kernel
      · by_cases h4 : x = lws (kdT.getD 3 (⟨#[]⟩, 0)).1.data.toList
        · subst h4; decide +kernel
        · have e3 : lws (kdT.getD 2 (⟨#[]⟩, 0)).1.data.toList = tew.data.toList := by decide +kernel
          have e4 : lws (kdT.getD 3 (⟨#[]⟩, 0)).1.data.toList = clw.data.toList := by decide +kernel
          have hf : kdT.find? (fun p => lws p.1.data.toList == x) = none := by
            rw [List.find?_eq_none]
            intro p hp
            rw [beq_iff_eq]
            intro e
            have hk : kdT = [kdT.getD 0 (⟨#[]⟩, 0), kdT.getD 1 (⟨#[]⟩, 0), kdT.getD 2 (⟨#[]⟩, 0), kdT.getD 3 (⟨#[]⟩, 0)] := rfl
            rw [hk] at hp
            simp only [List.mem_cons, List.not_mem_nil, or_false] at hp
            rcases hp with rfl | rfl | rfl | rfl
            · exact h1 e.symm
            · exact h2 e.symm
            · exact h3 e.symm
            · exact h4 e.symm
          rw [e3] at h3
          rw [e4] at h4
          rw [hf]
          simp [h3, h4]
theorem Itoa_walk (n : Int) (h0 : -9223372036854775808 ≤ n) (h1 : n ≤ 9223372036854775807) (w : World) (hG : GN w) : Calls Tryz.prog 42 #[.int .i64 n] w fun e w' => e = .returned (vs (Go.Lib.itoa n)) ∧ Up w w' := by
  refine Calls.mono (Go.Proofs.Any.strconv_Itoa Tryz.laysm171 n h0 h1 w hG.tab) ?_
  rintro e w' ⟨rfl, k, os, rfl⟩
  exact ⟨rfl, ((Up.refl w).drewN k).trans (up_grow _ os)⟩
/-- the fields that must come back -/
def tld (fs : List FD) (len : Int) : List FD := if 0 ≤ len then pfs fs ++ [lnf len.toNat] else pfs fs
set_option maxRecDepth 100000 in
set_option maxHeartbeats 2000000 in
theorem told_walk (a : Option Addr) (fs : List FD) (c : Nat) (len : Int) (w : World) (h : FdL w a fs c) (hG : GN w) (hl : szs fs ≤ 1099511627776) (hlen : len ≤ 1099511627776) (hlen0 : -1 ≤ len) :
    Calls Tryz.prog 23 #[.slice a fs.length c, .int .i64 len] w fun e w' => (∃ a2 c2, e = .returned (.slice a2 (tld fs len).length c2) ∧ Hid (FdO w' w.heap.size a2 (tld fs len) c2)) ∧ Up w w' := by
  have HF := Hid.of h
  have HGn := Hid.of hG
  have hcap := h.cap
  have hsl := szs_len fs
  have HZ := Hid.of (fun i => Nat.le_trans (szs_take fs i) hl)
  clear h hG hl
  have hfl : fs.length ≤ 1099511627776 := by have := HZ.out fs.length; rw [List.take_length] at this; omega
  clear hsl
  go_enter Tryz.func23, Tryz.ntmps23
  go_wp2
  go_loopw [5, 6] (fun v5 v6 wr => ∃ i : Nat, v6 = .int .i64 (i : Int) ∧ i ≤ fs.length ∧ ∃ q a7 c7, v5 = .slice a7 q c7 ∧ q ≤ i ∧ Hid (FdO wr w.heap.size a7 (pfs (fs.take i)) c7 ∧ Up w wr ∧ (pfs (fs.take i)).length = q)) (fun _ v6 _ => fs.length - (intOf v6).toNat)
  case atStart => exact ⟨0, rfl, Nat.zero_le _, 0, none, 0, rfl, Nat.le_refl _, Hid.of ⟨World.ownsRow_nil _ _ _ _, Up.refl _, rfl⟩⟩
  case round =>
    obtain ⟨i, rfl, hi, q, a7, c7, rfl, hqi, hU⟩ := hrel
    have HQ := Hid.of hU.out
    clear hU
    by_cases hil : i < fs.length
    · have hilz : (i : Int) < (fs.length : Int) := by omega
      obtain ⟨b, off, rfl, k1, k2⟩ := HF.out.cells i hil
      have HT := Hid.of (List.take_succ_eq_append_getElem hil)
      obtain ⟨f, hf⟩ : ∃ f, fs[i] = f := ⟨_, rfl⟩
      rw [hf] at k1 k2 HT
      have HK1 := Hid.of k1
      have HK2 := Hid.of k2
      have h5 := HZ.out (i + 1)
      rw [HT.out, szs_snoc] at h5
      unfold szf at h5
      have hfv : f.v.size ≤ 1099511627776 := by omega
      have hfn : f.n.size ≤ 1099511627776 := by omega
      have HLn := Hid.of HQ.out.2.2
      have k3 := HQ.out.2.1.cell k1
      clear hf k1 k2 h5
      go_wp2_with (with_reducible show wpList _ _ _ ({ dst := _, op := Op.indexAddr 25 _ _, type := _, pos := _, after := _, guard := _ } :: _) _ _; refine Shut.out ?_)
      show wpList _ _ _ _ _ _
      refine wpList_val7 (.pointer (some ⟨b, off + i * 2, none⟩)) rfl (exec_idxFd i hil rfl rfl rfl) ?_
      simp only [Act.put, List.setIfInBounds_toArray, List.set_cons_zero, List.set_cons_succ]
      go_wp2_with fail
      refine (lowerL_walk f.n wr hfn).mono ?_
      rintro e w4 ⟨rfl, u5⟩
      have HU4 := Hid.of (HQ.out.2.1.trans u5)
      have HO4 := Hid.of (ow_up HQ.out.1 u5)
      clear u5 HQ k3
      have HNm0 : (⟨(lws f.n.data.toList).toArray⟩ : ByteArray).data.toList = lws f.n.data.toList := rfl
      generalize (⟨(lws f.n.data.toList).toArray⟩ : ByteArray) = nm at HNm0 ⊢
      have HNm := Hid.of HNm0
      clear HNm0
      dsimp only
      have e1 : (nm.toList == [99, 111, 110, 116, 101, 110, 116, 45, 108, 101, 110, 103, 116, 104]) = (nm.data.toList == clw.data.toList) := by rw [Go.Lib.toList_data]; rfl
      have e2 : (nm.toList == [116, 114, 97, 110, 115, 102, 101, 114, 45, 101, 110, 99, 111, 100, 105, 110, 103]) = (nm.data.toList == tew.data.toList) := by rw [Go.Lib.toList_data]; rfl
      cases h3 : (nm.data.toList == clw.data.toList) with
      | true =>
        rw [h3] at e1
        clear e2
        have HS7 := Hid.of (show pfs (fs.take (i + 1)) = pfs (fs.take i) by rw [HT.out, pfs_no (by rw [kep_lws, ← HNm.out]; simp [h3])])
        have HO8 := Hid.of (show FdO w4 w.heap.size a7 (pfs (fs.take (i + 1))) c7 by rw [HS7.out]; exact HO4.out)
        have HL8 := Hid.of (show (pfs (fs.take (i + 1))).length = q by rw [HS7.out]; exact HLn.out)
        go_wp2
        go_roundw
        all_goals first
          | exact ⟨i + 1, by go_num, by omega, q, a7, c7, rfl, by omega, Hid.of ⟨HO8.out, HU4.out, HL8.out⟩⟩
          | (simp [intOf]; omega)
      | false =>
        rw [h3] at e1
        cases h4 : (nm.data.toList == tew.data.toList) with
        | true =>
          rw [h4] at e2
          have HS7 := Hid.of (show pfs (fs.take (i + 1)) = pfs (fs.take i) by rw [HT.out, pfs_no (by rw [kep_lws, ← HNm.out]; simp [h3, h4])])
          have HO8 := Hid.of (show FdO w4 w.heap.size a7 (pfs (fs.take (i + 1))) c7 by rw [HS7.out]; exact HO4.out)
          have HL8 := Hid.of (show (pfs (fs.take (i + 1))).length = q by rw [HS7.out]; exact HLn.out)
          go_wp2
          go_roundw
          all_goals first
            | exact ⟨i + 1, by go_num, by omega, q, a7, c7, rfl, by omega, Hid.of ⟨HO8.out, HU4.out, HL8.out⟩⟩
            | (simp [intOf]; omega)
        | false =>
          rw [h4] at e2
          have HT2 := Hid.of (show pfs (fs.take (i + 1)) = pfs (fs.take i) ++ [tfd f] by rw [HT.out, pfs_yes (by rw [kep_lws, ← HNm.out]; simp [h3, h4])])
          have HL7 := Hid.of (show (pfs (fs.take (i + 1))).length = q + 1 by rw [HT2.out, List.length_append, HLn.out]; rfl)
          go_wp2
          refine wp_region_held_drew (S := fun w2 => Up w w2) (by kernel_rfl) HU4.out.drew (fun hS => ?_)
          refine wpAnyH_take (i := 0) (oi := { dst := some 26, op := Go.Op.move (Go.Operand.tmp 5), type := 25, pos := "outright.go:65", after := #[], guard := none }) (v := .slice a7 q c7) rfl (by kernel_rfl) (by kernel_rfl) (by kernel_rfl) (fun _ _ _ h => h) (Or.inl ⟨by kernel_rfl, ?_⟩) hS ?_
          · intro w5 hSw
            clear hSw hS
            go_simp
          simp only [Act.put, List.setIfInBounds_toArray, List.set_cons_zero, List.set_cons_succ]
          refine wpAnyH_take (i := 1) (oi := { dst := some 27, op := Go.Op.move (Go.Operand.tmp 0), type := 25, pos := "outright.go:65", after := #[], guard := none }) (v := .slice (some ⟨b, off, none⟩) fs.length c) rfl (by kernel_rfl) (by kernel_rfl) (by kernel_rfl) (fun _ _ _ h => h) (Or.inl ⟨by kernel_rfl, ?_⟩) hS ?_
          · intro w5 hSw
            clear hSw hS
            go_simp
          simp only [Act.put, List.setIfInBounds_toArray, List.set_cons_zero, List.set_cons_succ]
          refine wpAnyH_take (i := 2) (oi := { dst := some 28, op := Go.Op.move (Go.Operand.tmp 6), type := 3, pos := "outright.go:65", after := #[], guard := none }) (v := .int .i64 (i : Int)) rfl (by kernel_rfl) (by kernel_rfl) (by kernel_rfl) (fun _ _ _ h => h) (Or.inl ⟨by kernel_rfl, ?_⟩) hS ?_
          · intro w5 hSw
            clear hSw hS
            go_simp
          simp only [Act.put, List.setIfInBounds_toArray, List.set_cons_zero, List.set_cons_succ]
          refine wpAnyH_take (i := 3) (oi := { dst := some 29, op := Go.Op.indexAddr 25 (Go.Operand.tmp 27) (Go.Operand.tmp 28), type := 0, pos := "outright.go:65", after := #[{ on := 1, ground := Go.Ground.data }, { on := 2, ground := Go.Ground.data }], guard := none }) (v := .pointer (some ⟨b, off + i * 2, none⟩)) rfl (by kernel_rfl) (by kernel_rfl) (by kernel_rfl) (fun _ _ _ h => h) (Or.inl ⟨by kernel_rfl, ?_⟩) hS ?_
          · intro w5 hSw
            clear hSw hS
            exact exec_idxFd i hil rfl rfl rfl
          simp only [Act.put, List.setIfInBounds_toArray, List.set_cons_zero, List.set_cons_succ]
          refine wpAnyH_take (i := 4) (oi := { dst := some 30, op := Go.Op.fieldAddr 73 (Go.Operand.tmp 29) 0, type := 0, pos := "outright.go:65", after := #[{ on := 3, ground := Go.Ground.data }], guard := none }) (v := .pointer (some ⟨b, off + i * 2, none⟩)) rfl (by kernel_rfl) (by kernel_rfl) (by kernel_rfl) (fun _ _ _ h => h) (Or.inl ⟨by kernel_rfl, ?_⟩) hS ?_
          · intro w5 hSw
            clear hSw hS
            go_simp
          simp only [Act.put, List.setIfInBounds_toArray, List.set_cons_zero, List.set_cons_succ]
          refine wpAnyH_take (i := 5) (oi := { dst := some 31, op := Go.Op.load 9 (Go.Operand.tmp 30), type := 9, pos := "outright.go:65", after := #[{ on := 4, ground := Go.Ground.data }], guard := none }) (v := .string f.n) rfl (by kernel_rfl) (by kernel_rfl) (by kernel_rfl) (fun _ _ _ h => h) (Or.inl ⟨by kernel_rfl, ?_⟩) hS ?_
          · intro w5 hSw
            have h0 := hSw.cell HK1.out
            clear hSw hS
            go_simp
          simp only [Act.put, List.setIfInBounds_toArray, List.set_cons_zero, List.set_cons_succ]
          refine wpAnyH_take (i := 6) (oi := { dst := some 32, op := Go.Op.move (Go.Operand.tmp 0), type := 25, pos := "outright.go:65", after := #[], guard := none }) (v := .slice (some ⟨b, off, none⟩) fs.length c) rfl (by kernel_rfl) (by kernel_rfl) (by kernel_rfl) (fun _ _ _ h => h) (Or.inl ⟨by kernel_rfl, ?_⟩) hS ?_
          · intro w5 hSw
            clear hSw hS
            go_simp
          simp only [Act.put, List.setIfInBounds_toArray, List.set_cons_zero, List.set_cons_succ]
          refine wpAnyH_take (i := 7) (oi := { dst := some 33, op := Go.Op.move (Go.Operand.tmp 6), type := 3, pos := "outright.go:65", after := #[], guard := none }) (v := .int .i64 (i : Int)) rfl (by kernel_rfl) (by kernel_rfl) (by kernel_rfl) (fun _ _ _ h => h) (Or.inl ⟨by kernel_rfl, ?_⟩) hS ?_
          · intro w5 hSw
            clear hSw hS
            go_simp
          simp only [Act.put, List.setIfInBounds_toArray, List.set_cons_zero, List.set_cons_succ]
          refine wpAnyH_take (i := 8) (oi := { dst := some 34, op := Go.Op.indexAddr 25 (Go.Operand.tmp 32) (Go.Operand.tmp 33), type := 0, pos := "outright.go:65", after := #[{ on := 6, ground := Go.Ground.data }, { on := 7, ground := Go.Ground.data }], guard := none }) (v := .pointer (some ⟨b, off + i * 2, none⟩)) rfl (by kernel_rfl) (by kernel_rfl) (by kernel_rfl) (fun _ _ _ h => h) (Or.inl ⟨by kernel_rfl, ?_⟩) hS ?_
          · intro w5 hSw
            clear hSw hS
            exact exec_idxFd i hil rfl rfl rfl
          simp only [Act.put, List.setIfInBounds_toArray, List.set_cons_zero, List.set_cons_succ]
          refine wpAnyH_take (i := 9) (oi := { dst := some 35, op := Go.Op.fieldAddr 73 (Go.Operand.tmp 34) 1, type := 0, pos := "outright.go:65", after := #[{ on := 8, ground := Go.Ground.data }], guard := none }) (v := .pointer (some ⟨b, off + i * 2 + 1, none⟩)) rfl (by kernel_rfl) (by kernel_rfl) (by kernel_rfl) (fun _ _ _ h => h) (Or.inl ⟨by kernel_rfl, ?_⟩) hS ?_
          · intro w5 hSw
            clear hSw hS
            go_simp
          simp only [Act.put, List.setIfInBounds_toArray, List.set_cons_zero, List.set_cons_succ]
          refine wpAnyH_take (i := 10) (oi := { dst := some 36, op := Go.Op.load 9 (Go.Operand.tmp 35), type := 9, pos := "outright.go:65", after := #[{ on := 9, ground := Go.Ground.data }], guard := none }) (v := .string f.v) rfl (by kernel_rfl) (by kernel_rfl) (by kernel_rfl) (fun _ _ _ h => h) (Or.inl ⟨by kernel_rfl, ?_⟩) hS ?_
          · intro w5 hSw
            have h0 := hSw.cell HK2.out
            clear hSw hS
            go_simp
          simp only [Act.put, List.setIfInBounds_toArray, List.set_cons_zero, List.set_cons_succ]
          refine wpAnyH_ready (rs := [11]) (by kernel_rfl) (by simp) ?_
          refine AllReadyH.cons (o := { dst := some 37, op := Go.Op.call { callee := Go.Callee.value (Go.Operand.func 41), args := #[Go.Operand.tmp 36], argTypes := #[9] }, type := 9, pos := "outright.go:65", after := #[{ on := 10, ground := Go.Ground.data }], guard := none }) rfl (fun K hK => ?_) AllReadyH.nil
          rw [if_pos (by kernel_rfl)]
          go_simp
          refine (trimmed_walk f.v hfv w4.drew).mono ?_
          rintro e w6 ⟨rfl, h9⟩
          obtain rfl := h9.symm
          have HVt := Hid.of (show vs (trm f.v.data.toList) = .string (tfd f).v from rfl)
          clear h9
          rw [HVt.out]
          dsimp only
          refine hK.out _ _ hS (fun hS => ?_)
          clear hK K
          refine wpAnyH_take (i := 12) (oi := { dst := some 38, op := Go.Op.build 73 #[(0, Go.Operand.tmp 31), (1, Go.Operand.tmp 37)], type := 73, pos := "outright.go:65", after := #[{ on := 5, ground := Go.Ground.data }, { on := 11, ground := Go.Ground.data }], guard := none }) (v := .agg #[.string f.n, .string (tfd f).v]) rfl (by kernel_rfl) (by kernel_rfl) (by kernel_rfl) (fun _ _ _ h => h) (Or.inl ⟨by kernel_rfl, ?_⟩) hS ?_
          · intro w5 hSw
            clear hSw hS
            go_simp
          simp only [Act.put, List.setIfInBounds_toArray, List.set_cons_zero, List.set_cons_succ]
          refine wpAnyH_ready (rs := [13]) (by kernel_rfl) (by simp) ?_
          refine AllReadyH.cons (o := { dst := some 39, op := Go.Op.buildSlice 25 1 #[(0, Go.Operand.tmp 38)], type := 25, pos := "outright.go:65", after := #[{ on := 12, ground := Go.Ground.data }], guard := none }) rfl (fun K hK => ?_) AllReadyH.nil
          rw [if_pos (by kernel_rfl)]
          go_simp
          refine hK.out _ _ (hS.alloc _) (fun hS => ?_)
          clear hK K
          refine wpAnyH_ready (rs := [14]) (by kernel_rfl) (by simp) ?_
          refine AllReadyH.cons (o := { dst := some 40, op := Go.Op.call { callee := Go.Callee.builtin Go.Builtin.append, args := #[Go.Operand.tmp 26, Go.Operand.tmp 39], argTypes := #[25, 25] }, type := 25, pos := "outright.go:65", after := #[{ on := 0, ground := Go.Ground.data }, { on := 13, ground := Go.Ground.data }, { on := 11, ground := Go.Ground.chain }], guard := none }) rfl (fun K hK => oper_of_list ?_) AllReadyH.nil
          refine wpList_appFd (w := w4.drew) (N := w.heap.size) rfl _ _ rfl a7 c7 (pfs (fs.take i)) (tfd f) HLn.out rfl rfl (ow_up HO4.out (Up.refl _).drew) HU4.out.drew.size (by omega) ?_
          intro ax2 cx2 w7 o7 u7 g7
          have HO7 := Hid.of (show FdO w7 w.heap.size ax2 (pfs (fs.take (i + 1))) cx2 by rw [HT2.out]; exact o7)
          have HU7 := Hid.of (u7 w HU4.out.drew (Nat.le_refl _))
          clear o7 u7 g7
          refine hK.out _ _ HU7.out (fun hS => ?_)
          clear hK K
          simp only [Act.put, List.setIfInBounds_toArray, List.set_cons_zero, List.set_cons_succ]
          refine wpAnyH_take (i := 15) (oi := { dst := some 5, op := Go.Op.assign (Go.Operand.tmp 40), type := 25, pos := "outright.go:65", after := #[{ on := 14, ground := Go.Ground.data }, { on := 14, ground := Go.Ground.chain }, { on := 0, ground := Go.Ground.phase }, { on := 1, ground := Go.Ground.phase }, { on := 2, ground := Go.Ground.phase }, { on := 3, ground := Go.Ground.phase }, { on := 4, ground := Go.Ground.phase }, { on := 5, ground := Go.Ground.phase }, { on := 6, ground := Go.Ground.phase }, { on := 7, ground := Go.Ground.phase }, { on := 8, ground := Go.Ground.phase }, { on := 9, ground := Go.Ground.phase }, { on := 10, ground := Go.Ground.phase }, { on := 11, ground := Go.Ground.phase }, { on := 12, ground := Go.Ground.phase }, { on := 13, ground := Go.Ground.phase }, { on := 14, ground := Go.Ground.phase }], guard := none }) (v := .slice ax2 (q + 1) cx2) rfl (by kernel_rfl) (by kernel_rfl) (by kernel_rfl) (fun _ _ _ h => h) (Or.inl ⟨by kernel_rfl, ?_⟩) hS ?_
          · intro w5 hSw
            clear hSw hS
            go_simp
          simp only [Act.put, List.setIfInBounds_toArray, List.set_cons_zero, List.set_cons_succ]
          clear hS
          refine wpAnyH_done (by kernel_rfl) ?_ _
          go_wp2
          go_roundw
          all_goals first
            | exact ⟨i + 1, by go_num, by omega, q + 1, ax2, cx2, rfl, by omega, Hid.of ⟨HO7.out, HU7.out, HL7.out⟩⟩
            | (simp [intOf]; omega)
    · have hilz : ¬ (i : Int) < (fs.length : Int) := by omega
      have HTk := Hid.of (show fs.take i = fs from List.take_of_length_le (by omega))
      rw [HTk.out] at HQ
      by_cases hl0 : 0 ≤ len
      · have HTl := Hid.of (show tld fs len = pfs fs ++ [lnf len.toNat] by unfold tld; rw [if_pos hl0])
        have HLf := Hid.of (show vs (Go.Lib.itoa len) = .string (lnf len.toNat).v by unfold lnf; rw [Int.toNat_of_nonneg hl0])
        go_wp2_with fail
        refine (Itoa_walk len (by omega) (by omega) wr (HGn.out.up HQ.out.2.1)).mono ?_
        rintro e w3 ⟨rfl, h9⟩
        have HU3 := Hid.of (HQ.out.2.1.trans h9)
        have HO3 := Hid.of (ow_up HQ.out.1 h9)
        clear h9
        rw [HLf.out]
        dsimp only
        go_wp2_with (with_reducible show wpList _ _ _ ({ dst := _, op := Op.call { callee := Callee.builtin Builtin.append, args := _, argTypes := _ }, type := _, pos := _, after := _, guard := _ } :: _) _ _; refine Shut.out ?_)
        show wpList _ _ _ _ _ _
        refine wpList_appFd (w := w3) (N := w.heap.size) rfl _ _ rfl a7 c7 (pfs fs) (lnf len.toNat) HQ.out.2.2 rfl rfl HO3.out HU3.out.size (by omega) ?_
        intro a4 c4 w4 o4 u4 _
        have HU4 := Hid.of (u4 w HU3.out (Nat.le_refl _))
        have HO4 := Hid.of o4
        clear o4 u4
        simp only [Act.put, List.setIfInBounds_toArray, List.set_cons_zero, List.set_cons_succ]
        go_wp2
        go_ret
        rw [HTl.out]
        exact ⟨⟨a4, c4, by rw [List.length_append, HQ.out.2.2]; rfl, Hid.of HO4.out⟩, HU4.out⟩
      · have HTl := Hid.of (show tld fs len = pfs fs by unfold tld; rw [if_neg hl0])
        go_wp2
        go_ret
        rw [HTl.out]
        exact ⟨⟨a7, c7, by rw [HQ.out.2.2]; rfl, Hid.of HQ.out.1⟩, HQ.out.2.1⟩
end Go.Proofs.YtbgjnghjddcooaaGreatDoor
namespace Go.Proofs.YtbgjnghjddcooaaGreatDoor
open Go.RowKit Go.Shelf TextNum
/-- bytes that are read are appended -/
theorem wpList_appSb2 {w : World} {N q : Nat} {ops : Array Oper} {rest : List Oper} {o : Oper} {a : Act} {Q : Exit → Act → World → Prop} (hgd : o.guard = none) (x y : Operand)
    (ho : o.op = .call { callee := .builtin .append, args := #[x, y], argTypes := #[22, 22] }) (ax : Option Addr) (cx : Nat) (xs : List UInt8) (vy : Value) (ds : List UInt8) (hx : a.eval x = .slice ax q cx) (hy : a.eval y = vy) (hSb : Sb w vy ds)
    (hR : w.ownsRow N 5 1 (.slice ax q cx) q (cb xs)) (hNw : N ≤ w.heap.size) (hql : q + ds.length ≤ 1099511627776)
    (K : ∀ ax2 cx2 w', w'.ownsRow N 5 1 (.slice ax2 (q + ds.length) cx2) (q + ds.length) (cb (xs ++ ds)) → (∀ W, Up W w → W.heap.size ≤ N → Up W w') → w.grownBy w' (Value.slice ax q cx).ownBlock → wpList Tryz.prog ops Q rest (a.put o.dst (.slice ax2 (q + ds.length) cx2)) w') :
    wpList Tryz.prog ops Q (o :: rest) a w := by
  obtain ⟨i0, hi0, hz0, hz1, hz2⟩ := info_parts Tryz.infoU8
  obtain ⟨ay, cy, rfl, k1, k2, k3, k4⟩ := hSb
  cases ay with
  | none =>
    obtain ⟨rfl, rfl⟩ := k3 rfl
    refine wpList_plain hgd fun K2 hK => ?_
    have hr := run_app_none (ty := o.type) (c := 0) hR
    unfold Oper.wp execOp
    simp only [List.length_nil] at hy
    simp only [ho, resolve, invoke, builtin, Sem.run_bind, Sem.run_pure, Result.andThen_ok, List.map_toArray, List.map_cons, List.map_nil, hx, hy, hr]
    exact hK _ _ (K ax cx w (by rw [List.append_nil]; exact hR) (fun W hU _ => hU) (World.grownBy.refl _ _))
  | some ad =>
    refine wpList_append_frs hgd x y 22 ho N 5 i0 (.int .u8 0) 1 Tryz.underlying22 hi0 hz0 hz1 hz2 rfl _ q _ hx hR ad ds.length cy (cb ds) hy (by rw [cb_length]; omega) (k4 ad rfl).2 (cb_one ds) (by simp only [maxLen]; omega) (by omega) hNw ?_
    intro v8 w8 o8 g8 _
    obtain ⟨a4, c4, rfl⟩ := row_len o8
    exact K a4 c4 w8 (by rw [cb_append]; exact o8) (fun W hU hW => up_grownBy hU g8 (fun g hg => Nat.le_trans hW (World.ownsRow.lt hR g hg).1)) g8
theorem tld_frF (fs : List FD) (n : Nat) : tld fs (if n = 0 then -1 else (n : Int)) = frF fs n := by
  unfold tld frF
  by_cases h : n = 0
  · rw [if_pos h, if_neg (by decide), if_neg (by omega)]
  · rw [if_neg h, if_pos (by omega), if_pos (by omega), Int.toNat_natCast]
theorem frQ_er {m t : ByteArray} {mi : Int} {fs : List FD} {bd : List UInt8} {k : Nat} (h : frQ m t mi fs bd = .error k) : (nums k != 0) = true := by
  have hk : k < 12 := by
    unfold frQ at h
    cases hc : ckq m t mi (frF fs bd.length) bd.length with
    | some j => rw [hc] at h; injection h with h; rw [← h]; exact ckq_lt hc
    | none => rw [hc] at h; cases h
  have : ∀ k, k < 12 → (nums k != 0) = true := by decide +kernel
  exact this k hk
theorem frQ_ok {m t : ByteArray} {mi : Int} {fs : List FD} {bd l : List UInt8} (h : frQ m t mi fs bd = .ok l) : ckq m t mi (frF fs bd.length) bd.length = none ∧ l = prt (frS m t mi) (frF fs bd.length) bd := by
  unfold frQ at h
  cases hc : ckq m t mi (frF fs bd.length) bd.length with
  | some j => rw [hc] at h; cases h
  | none => rw [hc] at h; injection h with h; exact ⟨rfl, h.symm⟩
theorem prt_len {st : List UInt8} {F : List FD} {bd : List UInt8} : (prt st F bd).length = st.length + 2 + szs F + bd.length := by
  have h1 := lbs_len F
  simp only [prt, List.length_append, List.length_cons, List.length_nil]
  omega
set_option maxRecDepth 100000 in
set_option maxHeartbeats 8000000 in
theorem whole_walk (ad : Nat → Addr) (m t : ByteArray) (mi : Int) (an : Option Addr) (ns : List ByteArray) (cn : Nat) (av : Option Addr) (us : List ByteArray) (cv : Nat) (ab : Option Addr) (nb cb' : Nat) (bd : List UInt8) (pad : Int) (ax : Option Addr) (nx cx : Nat) (tl : List UInt8) (at' : Int) (w : World) (hN : StL w an ns cn) (hV : StL w av us cv) (hB : Sb w (.slice ab nb cb') bd) (hT : Sb w (.slice ax nx cx) tl) (hW : GW w ad)
    (hm : m.size ≤ 1099511627776) (ht : t.size ≤ 1099511627776) (hm0 : -9223372036854775808 ≤ mi) (hm1 : mi ≤ 9223372036854775807) (hnl : ns.length ≤ 1048576) (hbl : bd.length ≤ 1048576) (htl : tl.length ≤ 1048576) (hz : szs (mkF ns us) ≤ 1099511627000) :
    Calls Tryz.prog 7 #[.agg #[.string m, .string t, .int .i64 mi, .slice an ns.length cn, .slice av us.length cv, .slice ab nb cb', .int .i64 pad], .slice ax nx cx, .int .i64 at'] w fun e w' => e = .returned (.bool true) ∧ Up w w' := by
  have HN := Hid.of hN
  have HV := Hid.of hV
  have HB := Hid.of hB
  have HT := Hid.of hT
  have HW := Hid.of hW
  obtain ⟨hbn, hbc, hbm⟩ := hB.len
  obtain ⟨htn, htc, htm⟩ := hT.len
  unfold maxLen at hbm htm
  have HBn := Hid.of hbn.symm
  have HTn := Hid.of htn.symm
  have hnb : nb ≤ 1048576 := by omega
  have hnx : nx ≤ 1048576 := by omega
  clear hN hV hB hT hW hbn htn
  obtain ⟨F, hF⟩ : ∃ F, mkF ns us = F := ⟨_, rfl⟩
  have HFl := Hid.of (show F.length = ns.length by rw [← hF, mkF_len])
  rw [hF] at hz
  have HFe := Hid.of hF
  clear hF
  have HA0 := Hid.of (at_new w 52 [.string m, .string t, .int .i64 mi, .slice an ns.length cn, .slice av us.length cv, .slice ab nb cb', .int .i64 pad])
  have HU0 := Hid.of ((Up.refl w).alloc (.cells [.string m, .string t, .int .i64 mi, .slice an ns.length cn, .slice av us.length cv, .slice ab nb cb', .int .i64 pad].toArray 52))
  go_enter Tryz.func7, Tryz.ntmps7
  go_wp2_with fail
  obtain ⟨w1, hw1⟩ : ∃ w1, w.alloc (.cells [.string m, .string t, .int .i64 mi, .slice an ns.length cn, .slice av us.length cv, .slice ab nb cb', .int .i64 pad].toArray 52) = w1 := ⟨_, rfl⟩
  rw [hw1] at HA0 HU0
  change Calls _ _ _ (w.alloc (.cells [.string m, .string t, .int .i64 mi, .slice an ns.length cn, .slice av us.length cv, .slice ab nb cb', .int .i64 pad].toArray 52)) _
  rw [hw1]
  clear hw1
  refine (known_walk ad w1 (HW.out.up HU0.out)).mono ?_
  rintro e w2 ⟨rfl, h9⟩
  have HU2 := Hid.of (HU0.out.trans h9)
  have HA2 := Hid.of (HA0.out.up h9)
  clear h9
  dsimp only
  have k6 := HA2.out.cell (i := 6) rfl
  have f6 := HA2.out.thaw 6
  have HU3a := Hid.of (HU2.out.by (grown_set1 w2 w.heap.size 6 (.int .i64 0)) (fun g hg => by have := Option.some.inj hg; omega))
  have HA3a := Hid.of (show At (w2.setCell ⟨w.heap.size, 6, none⟩ (.int .i64 0)) w.heap.size 52 [.string m, .string t, .int .i64 mi, .slice an ns.length cn, .slice av us.length cv, .slice ab nb cb', .int .i64 0] from HA2.out.set 6 (.int .i64 0))
  go_wp2_with (with_reducible show wpList _ _ _ ({ dst := _, op := Op.load 52 _, type := _, pos := _, after := _, guard := _ } :: _) _ _; refine Shut.out ?_)
  show wpList _ _ _ _ _ _
  obtain ⟨w3, hw3⟩ : ∃ w3, w2.setCell ⟨w.heap.size, 6, none⟩ (.int .i64 0) = w3 := ⟨_, rfl⟩
  rw [hw3] at HA3a HU3a
  change wpList _ _ _ _ _ (w2.setCell ⟨w.heap.size, 6, none⟩ (.int .i64 0))
  rw [hw3]
  clear hw3 k6 f6
  refine wpList_load_mid rfl _ _ rfl w.heap.size 0 rfl [.string m, .string t, .int .i64 mi, .slice an ns.length cn, .slice av us.length cv, .slice ab nb cb', .int .i64 0] _ HA3a.out.range Tryz.underlying52 rfl (by kernel_rfl) ?_
  simp only [Act.put, List.setIfInBounds_toArray, List.set_cons_zero, List.set_cons_succ]
  go_wp2_with fail
  refine (request_walk m t mi an ns cn av us cv ab nb cb' bd 0 w3 (HN.out.up HU3a.out) (HV.out.up HU3a.out) (HB.out.up HU3a.out) hnl hbl).mono ?_
  rintro e w4 ⟨⟨aF, cF, vF, rfl, hO⟩, h9⟩
  have hpd : pdd bd 0 = bd := by unfold pdd; simp
  rw [hpd, HFe.out] at hO
  obtain ⟨aR, cR, rfl⟩ := row_len hO.out.2
  rw [HBn.out]
  have HU4 := Hid.of (HU3a.out.trans h9)
  have HA4 := Hid.of (HA3a.out.up h9)
  have HF4 := Hid.of (FdO.fdl hO.out.1)
  have HB4 := Hid.of (Ow.sb hO.out.2)
  rw [HBn.out] at HB4
  clear hO h9 hpd
  obtain ⟨nF, hnF⟩ : ∃ nF, ns.length = nF := ⟨_, rfl⟩
  have HNF := Hid.of (show F.length = nF by rw [HFl.out]; exact hnF)
  have hnFl : nF ≤ 1048576 := by omega
  have HNs := Hid.of hnF
  dsimp only
  rw [hnF]
  clear hnF
  go_wp2_with (with_reducible show wpList _ _ _ ({ dst := _, op := Op.load 27 _, type := _, pos := _, after := _, guard := _ } :: _) _ _; refine Shut.out ?_)
  show wpList _ _ _ _ _ _
  obtain ⟨w5, hw5⟩ : ∃ w5, w4.alloc (.cells #[.string m, .string t, .int .i64 mi, .slice aF nF cF, .slice aR nb cR, .bool false] 27) = w5 := ⟨_, rfl⟩
  have HU5 := Hid.of (show Up w w5 by rw [← hw5]; exact HU4.out.alloc _)
  have HR5 := Hid.of (show At w5 w4.heap.size 27 [.string m, .string t, .int .i64 mi, .slice aF nF cF, .slice aR nb cR, .bool false] by rw [← hw5]; exact at_new w4 27 [.string m, .string t, .int .i64 mi, .slice aF nF cF, .slice aR nb cR, .bool false])
  have Hu5 := Hid.of (show Up w4 w5 by rw [← hw5]; exact (Up.refl w4).alloc _)
  change wpList _ _ _ _ _ (w4.alloc (.cells #[.string m, .string t, .int .i64 mi, .slice aF nF cF, .slice aR nb cR, .bool false] 27))
  rw [hw5]
  clear hw5
  have HQ5 := Hid.of (HA4.out.up Hu5.out)
  have HF5 := Hid.of (HF4.out.up Hu5.out)
  have HB5 := Hid.of (HB4.out.up Hu5.out)
  have HFR := Hid.of (FormatRequest_walk ad m t mi aF F cF aR nb cR bd false w5 HF5.out HB5.out (HW.out.up HU5.out) hm ht hm0 hm1 hz (by omega))
  refine wpList_load_mid rfl _ _ rfl w4.heap.size 0 rfl [.string m, .string t, .int .i64 mi, .slice aF nF cF, .slice aR nb cR, .bool false] _ HR5.out.range Tryz.underlying27 rfl (by kernel_rfl) ?_
  simp only [Act.put, List.setIfInBounds_toArray, List.set_cons_zero, List.set_cons_succ]
  rw [HNF.out] at HFR
  go_wp2_with fail
  refine HFR.out.mono ?_
  rintro e w6 ⟨hR, h9⟩
  have HU6 := Hid.of (HU5.out.trans h9)
  have Hk6 := Hid.of h9
  have HR6 := Hid.of (HR5.out.up h9)
  have HQ6 := Hid.of (HQ5.out.up h9)
  have HF6 := Hid.of (HF5.out.up h9)
  have HB6 := Hid.of (HB5.out.up h9)
  clear h9 HFR
  cases hq : frQ m t mi F bd with
  | error k =>
    rw [hq] at hR
    have hne := frQ_er hq
    obtain rfl := hR
    clear hq
    dsimp only
    go_wp2
    go_ret
    exact ⟨rfl, HU6.out⟩
  | ok l =>
    rw [hq] at hR
    obtain ⟨a8, c8, rfl, hO8⟩ := hR
    obtain ⟨hck, hl⟩ := frQ_ok hq
    have hcko := ckq_ok hck
    have hfl := ckf_none (ckq_none hck).2.2.2.2.1
    have hll : l.length ≤ 1099511 := by
      rw [hl, prt_len, frS_len]
      omega
    have HP0 := Hid.of (show rqP l = .ok ((⟨m.data.toList, t.data.toList, mi, frF F bd.length⟩, bd), l.length) by
      have h1 := rqP_prt hck []
      rw [List.append_nil, ← hl] at h1
      exact h1)
    have HPt := Hid.of (show rqP (l ++ tl) = .ok ((⟨m.data.toList, t.data.toList, mi, frF F bd.length⟩, bd), l.length) by
      have h1 := rqP_prt hck tl
      rw [← hl] at h1
      exact h1)
    clear hq hl hck hcko
    obtain ⟨FF, hFF⟩ : ∃ FF, frF F bd.length = FF := ⟨_, rfl⟩
    have HFF := Hid.of hFF
    rw [hFF] at HP0 HPt hfl
    clear hFF
    obtain ⟨nP, hnP⟩ : ∃ nP, FF.length = nP := ⟨_, rfl⟩
    have HNPx := Hid.of hnP
    have hnP64 : nP ≤ 64 := by rw [← hnP]; exact hfl.1
    clear hfl hnP
    have hl0 : 0 < l.length := by
      rcases Nat.eq_zero_or_pos l.length with h | h
      · exfalso
        have h1 := HP0.out
        rw [List.eq_nil_of_length_eq_zero h] at h1
        revert h1
        have : rqP [] = .error 2 := rfl
        rw [this]
        intro h2
        cases h2
      · exact h
    have HPre := Hid.of (fun i (hi : i < l.length) => rqP_pre HP0.out hi)
    obtain ⟨L, hL⟩ : ∃ L, l.length = L := ⟨_, rfl⟩
    have HL := Hid.of hL
    have HO8 := Hid.of hO8.out
    have HS8 := Hid.of (Ow.sb hO8.out)
    rw [hL] at HO8 HS8 HPre HP0 HPt hl0 hll ⊢
    clear hL hO8
    have hL40 : L ≤ 1099511627776 := by omega
    dsimp only
    have k4 := HR6.out.cell (i := 4) rfl
    have HBr := Hid.of (fun (w2 : World) (hu : Up w6 w2) => HB6.out.up hu)
    have HSh := Hid.of (fun (w2 : World) (hu : Up w6 w2) => short_walk ad at' hL40 hl0 w2 (HS8.out.up hu) (HW.out.up (HU6.out.trans hu)) HPre.out)
    by_cases hb0 : nb = 0
    · have hb0z : ((nb : Int) == 0) = true := by rw [hb0]; rfl
      have HTF := Hid.of (show tld F (-1) = FF by have h1 := tld_frF F bd.length; rw [HBn.out, if_pos hb0, ← HBn.out, HFF.out] at h1; exact h1)
      clear hb0
      go_wp2_with fail
      refine (ParseRequest_walk ad hL40 w6 HS8.out (HW.out.up HU6.out)).mono ?_
      rintro e w7 ⟨hR7, h9⟩
      rw [HP0.out] at hR7
      obtain ⟨aP, cP, vP, rfl, hO7⟩ := hR7
      have HU7 := Hid.of (HU6.out.trans h9)
      have Hk7 := Hid.of h9
      have HR7 := Hid.of (HR6.out.up h9)
      have HQ7 := Hid.of (HQ6.out.up h9)
      obtain ⟨aB, cB, rfl⟩ := row_len hO7.out.2
      have HF7 := Hid.of hO7.out.1
      have HB7 := Hid.of hO7.out.2
      clear hO7 h9
      unfold rqV
      dsimp only at HF7 HB7 ⊢
      rw [vs_data', vs_data', HNPx.out, HBn.out]
      rw [HBn.out] at HB7
      obtain ⟨cl, hcl⟩ : ∃ cl, cls (mi == 0) FF = cl := ⟨_, rfl⟩
      have HCl := Hid.of hcl
      rw [hcl]
      clear hcl
      obtain ⟨w8, hw8⟩ : ∃ w8, w7.alloc (.cells #[.string m, .string t, .int .i64 mi, .slice aP nP cP, .slice aB nb cB, .bool cl] 27) = w8 := ⟨_, rfl⟩
      have HU8 := Hid.of (show Up w w8 by rw [← hw8]; exact HU7.out.alloc _)
      have HP8 := Hid.of (show At w8 w7.heap.size 27 [.string m, .string t, .int .i64 mi, .slice aP nP cP, .slice aB nb cB, .bool cl] by rw [← hw8]; exact at_new w7 27 [.string m, .string t, .int .i64 mi, .slice aP nP cP, .slice aB nb cB, .bool cl])
      have Hu8 := Hid.of (show Up w7 w8 by rw [← hw8]; exact (Up.refl w7).alloc _)
      have HR8 := Hid.of (HR7.out.up Hu8.out)
      have HQ8 := Hid.of (HQ7.out.up Hu8.out)
      have Hk8 := Hid.of (Hk7.out.trans Hu8.out)
      have HW8 := Hid.of hw8
      have HFp := Hid.of (fun (w2 : World) (hu : Up w8 w2) => FdO.fdl (ow_up HF7.out (Hu8.out.trans hu)))
      clear hw8
      have hcv1 := conv_sb2 (Ow.sb (ow_up HB7.out Hu8.out))
      have hcv2 := conv_sb2 ((HBr.out w8 Hk8.out))
      have p0 := HP8.out.cell (i := 0) rfl
      have p1 := HP8.out.cell (i := 1) rfl
      have p2 := HP8.out.cell (i := 2) rfl
      have p4 := HP8.out.cell (i := 4) rfl
      have q0 := HQ8.out.cell (i := 0) rfl
      have q1 := HQ8.out.cell (i := 1) rfl
      have q2 := HQ8.out.cell (i := 2) rfl
      have r4 := HR8.out.cell (i := 4) rfl
      rw [← HW8.out] at p0 p1 p2 p4 q0 q1 q2 r4 hcv1 hcv2
      go_wp2
      change Code.wp _ _ _ _ (w7.alloc (.cells #[.string m, .string t, .int .i64 mi, .slice aP nP cP, .slice aB nb cB, .bool cl] 27))
      rw [HW8.out]
      clear p0 p1 p2 p4 q0 q1 q2 r4 hcv1 hcv2 HW8
      have HTd := Hid.of (fun (w2 : World) (hu : Up w6 w2) => told_walk aF F cF (-1) w2 (HF6.out.up hu) (HW.out.up (HU6.out.trans hu)).gn (by omega) (by omega) (by omega))
      rw [HNF.out, HTF.out, HNPx.out] at HTd
      refine wp_region_held_drew (S := fun w2 => At w2 w7.heap.size 27 [.string m, .string t, .int .i64 mi, .slice aP nP cP, .slice aB nb cB, .bool cl] ∧ At w2 w4.heap.size 27 [.string m, .string t, .int .i64 mi, .slice aF nF cF, .slice aR nb cR, .bool false] ∧ Up w w2) (by kernel_rfl) ⟨HP8.out.up (Up.refl _).drew, HR8.out.up (Up.refl _).drew, HU8.out.drew⟩ (fun hS => ?_)
      refine wpAnyH_take (i := 0) (oi := { dst := some 81, op := Go.Op.fieldAddr 27 (Go.Operand.tmp 11) 3, type := 0, pos := "outright.go:106", after := #[], guard := none }) (v := .pointer (some ⟨w7.heap.size, 3, none⟩)) rfl (by kernel_rfl) (by kernel_rfl) (by kernel_rfl) (fun _ _ _ h => h) (Or.inl ⟨by kernel_rfl, ?_⟩) hS ?_
      · intro w5 hSw
        clear hSw hS
        go_simp
      simp only [Act.put, List.setIfInBounds_toArray, List.set_cons_zero, List.set_cons_succ]
      refine wpAnyH_take (i := 1) (oi := { dst := some 82, op := Go.Op.load 25 (Go.Operand.tmp 81), type := 25, pos := "outright.go:106", after := #[{ on := 0, ground := Go.Ground.data }], guard := none }) (v := .slice aP nP cP) rfl (by kernel_rfl) (by kernel_rfl) (by kernel_rfl) (fun _ _ _ h => h) (Or.inl ⟨by kernel_rfl, ?_⟩) hS ?_
      · intro w5 hSw
        have h0 := hSw.1.cell (i := 3) rfl
        clear hSw hS
        go_simp
      simp only [Act.put, List.setIfInBounds_toArray, List.set_cons_zero, List.set_cons_succ]
      refine wpAnyH_take (i := 2) (oi := { dst := some 83, op := Go.Op.fieldAddr 27 (Go.Operand.tmp 7) 3, type := 0, pos := "outright.go:106", after := #[], guard := none }) (v := .pointer (some ⟨w4.heap.size, 3, none⟩)) rfl (by kernel_rfl) (by kernel_rfl) (by kernel_rfl) (fun _ _ _ h => h) (Or.inl ⟨by kernel_rfl, ?_⟩) hS ?_
      · intro w5 hSw
        clear hSw hS
        go_simp
      simp only [Act.put, List.setIfInBounds_toArray, List.set_cons_zero, List.set_cons_succ]
      refine wpAnyH_take (i := 3) (oi := { dst := some 84, op := Go.Op.load 25 (Go.Operand.tmp 83), type := 25, pos := "outright.go:106", after := #[{ on := 2, ground := Go.Ground.data }], guard := none }) (v := .slice aF nF cF) rfl (by kernel_rfl) (by kernel_rfl) (by kernel_rfl) (fun _ _ _ h => h) (Or.inl ⟨by kernel_rfl, ?_⟩) hS ?_
      · intro w5 hSw
        have h0 := hSw.2.1.cell (i := 3) rfl
        clear hSw hS
        go_simp
      simp only [Act.put, List.setIfInBounds_toArray, List.set_cons_zero, List.set_cons_succ]
      refine wpAnyH_take (i := 4) (oi := { dst := some 85, op := Go.Op.move (Go.Operand.tmp 10), type := 3, pos := "outright.go:106", after := #[], guard := none }) (v := .int .i64 (-1)) rfl (by kernel_rfl) (by kernel_rfl) (by kernel_rfl) (fun _ _ _ h => h) (Or.inl ⟨by kernel_rfl, ?_⟩) hS ?_
      · intro w5 hSw
        clear hSw hS
        go_simp
      simp only [Act.put, List.setIfInBounds_toArray, List.set_cons_zero, List.set_cons_succ]
      refine wpAnyH_ready (rs := [5]) (by kernel_rfl) (by simp) ?_
      refine AllReadyH.cons (o := { dst := some 86, op := Go.Op.call { callee := Go.Callee.value (Go.Operand.func 23), args := #[Go.Operand.tmp 84, Go.Operand.tmp 85], argTypes := #[25, 3] }, type := 25, pos := "outright.go:106", after := #[{ on := 3, ground := Go.Ground.data }, { on := 4, ground := Go.Ground.data }], guard := none }) rfl (fun K hK => ?_) AllReadyH.nil
      rw [if_pos (by kernel_rfl)]
      go_simp
      refine (HTd.out w8.drew (Hk8.out.drew)).mono ?_
      rintro e w9 ⟨⟨a9, c9, rfl, hO9⟩, h9⟩
      have HU9 := Hid.of (HU8.out.drew.trans h9)
      have Hk9 := Hid.of (Hk8.out.drew.trans h9)
      have HT9 := Hid.of (FdO.fdl hO9.out)
      have Hu9 := Hid.of h9
      have Hv9 := Hid.of ((Up.refl w8).drew.trans h9)
      clear h9 hO9
      dsimp only
      refine hK.out _ _ ⟨hS.1.up Hu9.out, hS.2.1.up Hu9.out, HU9.out⟩ (fun hS => ?_)
      clear hK K
      refine wpAnyH_ready (rs := [6]) (by kernel_rfl) (by simp) ?_
      refine AllReadyH.cons (o := { dst := some 87, op := Go.Op.call { callee := Go.Callee.value (Go.Operand.func 15), args := #[Go.Operand.tmp 82, Go.Operand.tmp 86], argTypes := #[25, 25] }, type := 4, pos := "outright.go:106", after := #[{ on := 1, ground := Go.Ground.data }, { on := 5, ground := Go.Ground.data }, { on := 5, ground := Go.Ground.chain }], guard := none }) rfl (fun K hK => ?_) AllReadyH.nil
      rw [if_pos (by kernel_rfl)]
      go_simp
      refine (alike_same aP a9 FF cP c9 nP HNPx.out (by omega) w9 (HFp.out w9 Hv9.out) HT9.out).mono ?_
      rintro e w10 ⟨rfl, h9⟩
      have HU10 := Hid.of (HU9.out.trans h9)
      have Hk10 := Hid.of (Hk9.out.trans h9)
      have Hv10 := Hid.of (Hv9.out.trans h9)
      dsimp only
      refine hK.out _ _ ⟨hS.1.up h9, hS.2.1.up h9, HU10.out⟩ (fun hS => ?_)
      clear hK K h9
      refine wpAnyH_take (i := 7) (oi := { dst := some 88, op := Go.Op.unOp Go.UnOp.not 4 (Go.Operand.tmp 87), type := 4, pos := "outright.go:106", after := #[{ on := 6, ground := Go.Ground.data }], guard := none }) (v := .bool false) rfl (by kernel_rfl) (by kernel_rfl) (by kernel_rfl) (fun _ _ _ h => h) (Or.inl ⟨by kernel_rfl, ?_⟩) hS ?_
      · intro w5 hSw
        clear hSw hS
        go_simp
      simp only [Act.put, List.setIfInBounds_toArray, List.set_cons_zero, List.set_cons_succ]
      refine wpAnyH_take (i := 8) (oi := { dst := some 89, op := Go.Op.move (Go.Operand.tmp 88), type := 4, pos := "outright.go:106", after := #[{ on := 7, ground := Go.Ground.data }, { on := 6, ground := Go.Ground.chain }], guard := none }) (v := .bool false) rfl (by kernel_rfl) (by kernel_rfl) (by kernel_rfl) (fun _ _ _ h => h) (Or.inl ⟨by kernel_rfl, ?_⟩) hS ?_
      · intro w5 hSw
        clear hSw hS
        go_simp
      simp only [Act.put, List.setIfInBounds_toArray, List.set_cons_zero, List.set_cons_succ]
      refine wpAnyH_take (i := 9) (oi := { dst := some 90, op := Go.Op.move (Go.Operand.tmp 8), type := 22, pos := "outright.go:106", after := #[{ on := 8, ground := Go.Ground.guard }], guard := some (8, false) }) (v := .slice a8 L c8) rfl (by kernel_rfl) (by kernel_rfl) (by kernel_rfl) (fun _ _ _ h => h) (Or.inl ⟨by kernel_rfl, ?_⟩) hS ?_
      · intro w5 hSw
        clear hSw hS
        go_simp
      simp only [Act.put, List.setIfInBounds_toArray, List.set_cons_zero, List.set_cons_succ]
      refine wpAnyH_take (i := 10) (oi := { dst := some 91, op := Go.Op.move (Go.Operand.tmp 2), type := 3, pos := "outright.go:106", after := #[{ on := 8, ground := Go.Ground.guard }], guard := some (8, false) }) (v := .int .i64 at') rfl (by kernel_rfl) (by kernel_rfl) (by kernel_rfl) (fun _ _ _ h => h) (Or.inl ⟨by kernel_rfl, ?_⟩) hS ?_
      · intro w5 hSw
        clear hSw hS
        go_simp
      simp only [Act.put, List.setIfInBounds_toArray, List.set_cons_zero, List.set_cons_succ]
      refine wpAnyH_ready (rs := [11]) (by kernel_rfl) (by simp) ?_
      refine AllReadyH.cons (o := { dst := some 92, op := Go.Op.call { callee := Go.Callee.value (Go.Operand.func 24), args := #[Go.Operand.tmp 90, Go.Operand.tmp 91], argTypes := #[22, 3] }, type := 4, pos := "outright.go:106", after := #[{ on := 9, ground := Go.Ground.data }, { on := 10, ground := Go.Ground.data }, { on := 8, ground := Go.Ground.chain }, { on := 8, ground := Go.Ground.guard }], guard := some (8, false) }) rfl (fun K hK => ?_) AllReadyH.nil
      rw [if_pos (by kernel_rfl)]
      go_simp
      refine (HSh.out w10 Hk10.out).mono ?_
      rintro e w11 ⟨rfl, h9⟩
      have HU11 := Hid.of (HU10.out.trans h9)
      have Hk11 := Hid.of (Hk10.out.trans h9)
      have Hv11 := Hid.of (Hv10.out.trans h9)
      dsimp only
      have HP11 := Hid.of (hS.1.up h9)
      refine hK.out _ _ ⟨hS.1.up h9, hS.2.1.up h9, HU11.out⟩ (fun hS => ?_)
      clear hK K h9
      refine wpAnyH_take (i := 12) (oi := { dst := some 93, op := Go.Op.unOp Go.UnOp.not 4 (Go.Operand.tmp 92), type := 4, pos := "outright.go:106", after := #[{ on := 11, ground := Go.Ground.data }, { on := 8, ground := Go.Ground.guard }], guard := some (8, false) }) (v := .bool false) rfl (by kernel_rfl) (by kernel_rfl) (by kernel_rfl) (fun _ _ _ h => h) (Or.inl ⟨by kernel_rfl, ?_⟩) hS ?_
      · intro w5 hSw
        clear hSw hS
        go_simp
      simp only [Act.put, List.setIfInBounds_toArray, List.set_cons_zero, List.set_cons_succ]
      refine wpAnyH_take (i := 13) (oi := { dst := some 94, op := Go.Op.pick (Go.Operand.tmp 89) (Go.Operand.const (Go.Value.bool true)) (Go.Operand.tmp 93), type := 4, pos := "outright.go:106", after := #[{ on := 8, ground := Go.Ground.data }, { on := 12, ground := Go.Ground.data }], guard := none }) (v := .bool false) rfl (by kernel_rfl) (by kernel_rfl) (by kernel_rfl) (fun _ _ _ h => h) (Or.inl ⟨by kernel_rfl, ?_⟩) hS ?_
      · intro w5 hSw
        clear hSw hS
        go_simp
      simp only [Act.put, List.setIfInBounds_toArray, List.set_cons_zero, List.set_cons_succ]
      clear hS
      refine wpAnyH_done (by kernel_rfl) ?_ _
      go_wp2_with (with_reducible show wpList _ _ _ ({ dst := _, op := Op.call { callee := Callee.builtin Builtin.append, args := _, argTypes := _ }, type := _, pos := _, after := _, guard := _ } :: _) _ _; refine Shut.out ?_)
      show wpList _ _ _ _ _ _
      have HO11 := Hid.of (ow_up HO8.out Hk11.out)
      have HO11' := Hid.of (show w11.ownsRow w5.heap.size 5 1 (.slice a8 L c8) L (cb l) by have h1 := HO11.out; unfold Ow at h1; rw [HL.out] at h1; exact h1)
      refine wpList_appSb2 (N := w5.heap.size) rfl _ _ rfl a8 c8 l _ tl rfl rfl (HT.out.up HU11.out) HO11'.out (Hk6.out.trans Hk11.out).size (by omega) ?_
      intro a12 c12 w12 o12 u12 g12
      have HU12 := Hid.of (HU5.out.trans (u12 w5 (Hk6.out.trans Hk11.out) (Nat.le_refl _)))
      have HP12 := Hid.of (HP11.out.by g12 (own_ne HO11'.out HP11.out (by decide)))
      have HF12 := Hid.of (FdO.fdl (show FdO w12 w6.heap.size aP FF cP from World.ownsRow.kept (ow_up HF7.out (Hu8.out.trans Hv11.out)) g12 (own_off (ow_up HF7.out (Hu8.out.trans Hv11.out)) HO11'.out (by decide))))
      have HB12 := Hid.of (show Sb w12 (.slice aB nb cB) bd from Ow.sb (B := w6.heap.size) (World.ownsRow.kept (ow_up HB7.out (Hu8.out.trans Hv11.out)) g12 (by
        cases hv : (Value.slice aB nb cB).ownBlock with
        | none => exact .inl rfl
        | some g =>
          refine .inr (fun e => ?_)
          have h1 := (World.ownsRow.lt HB7.out g hv).1
          have h2 := (World.ownsRow.lt HO8.out g e.symm).2
          omega)))
      have HS12 := Hid.of (show Sb w12 (.slice a12 (L + tl.length) c12) (l ++ tl) from Ow.sb (B := w5.heap.size) (by
        unfold Ow
        rw [List.length_append, HL.out]
        exact o12))
      clear o12 u12 g12
      simp only [Act.put, List.setIfInBounds_toArray, List.set_cons_zero, List.set_cons_succ]
      go_wp2_with fail
      refine (padded_walk (.slice a12 (L + tl.length) c12) (l ++ tl) 0 (by rw [List.length_append, HL.out]; omega) w12 HS12.out).mono ?_
      rintro e w13 ⟨v13, rfl, hO13, h9⟩
      have hpd : pdd (l ++ tl) 0 = l ++ tl := by unfold pdd; simp
      rw [hpd] at hO13
      obtain ⟨a13, c13, rfl⟩ := row_len hO13
      have HS13 := Hid.of (Ow.sb hO13)
      have HU13 := Hid.of (HU12.out.trans h9)
      have Hk13 := Hid.of h9
      have hl13 : (l ++ tl).length ≤ 1099511627776 := by rw [List.length_append, HL.out]; omega
      clear h9 hO13 hpd
      generalize hN13 : (l ++ tl).length = N13 at HS13 hl13 ⊢
      clear hN13
      dsimp only
      go_wp2_with fail
      refine (ParseRequest_walk ad hl13 w13 HS13.out (HW.out.up HU13.out)).mono ?_
      rintro e w14 ⟨hR14, h9⟩
      rw [HPt.out] at hR14
      obtain ⟨aS, cS, vS, rfl, hO14⟩ := hR14
      obtain ⟨aC, cC, rfl⟩ := row_len hO14.out.2
      have HU14 := Hid.of (HU13.out.trans h9)
      have Hk14 := Hid.of (Hk13.out.trans h9)
      have HG14 := Hid.of (FdO.fdl hO14.out.1)
      have HC14 := Hid.of (Ow.sb hO14.out.2)
      clear h9 hO14
      unfold rqV
      dsimp only at HG14 HC14 ⊢
      rw [vs_data', vs_data', HNPx.out, HBn.out, HCl.out]
      rw [HBn.out] at HC14
      obtain ⟨w15, hw15⟩ : ∃ w15, w14.alloc (.cells #[.string m, .string t, .int .i64 mi, .slice aS nP cS, .slice aC nb cC, .bool cl] 27) = w15 := ⟨_, rfl⟩
      have HU15 := Hid.of (show Up w w15 by rw [← hw15]; exact HU14.out.alloc _)
      have HS15 := Hid.of (show At w15 w14.heap.size 27 [.string m, .string t, .int .i64 mi, .slice aS nP cS, .slice aC nb cC, .bool cl] by rw [← hw15]; exact at_new w14 27 [.string m, .string t, .int .i64 mi, .slice aS nP cS, .slice aC nb cC, .bool cl])
      have Hu15 := Hid.of (show Up w14 w15 by rw [← hw15]; exact (Up.refl w14).alloc _)
      have HP15 := Hid.of (HP12.out.up (Hk14.out.trans Hu15.out))
      have HF15 := Hid.of (HF12.out.up (Hk14.out.trans Hu15.out))
      have HB15 := Hid.of (HB12.out.up (Hk14.out.trans Hu15.out))
      have HG15 := Hid.of (HG14.out.up Hu15.out)
      have HC15 := Hid.of (HC14.out.up Hu15.out)
      have HW15 := Hid.of hw15
      clear hw15
      have y1 : ((L : Int) == (L : Int)) = true := by simp
      have HTw := Hid.of (twins_same m t mi FF nP cl aS aP cS cP (.slice aC nb cC) (.slice aB nb cB) bd HNPx.out (by omega) w15 HG15.out HF15.out HC15.out HB15.out)
      go_wp2_with (with_reducible show wpList _ _ _ ({ dst := _, op := Op.load 27 _, type := _, pos := _, after := _, guard := _ } :: _) _ _; refine Shut.out ?_)
      show wpList _ _ _ _ _ _
      change wpList _ _ _ _ _ (w14.alloc (.cells #[.string m, .string t, .int .i64 mi, .slice aS nP cS, .slice aC nb cC, .bool cl] 27))
      rw [HW15.out]
      refine wpList_valG (.agg ([.string m, .string t, .int .i64 mi, .slice aS nP cS, .slice aC nb cC, .bool cl] : List Value).toArray) (by kernel_rfl) (exec_load6 rfl rfl HS15.out.range) ?_
      simp only [Act.put, List.setIfInBounds_toArray, List.set_cons_zero, List.set_cons_succ]
      go_wp2_with (with_reducible show wpList _ _ _ ({ dst := _, op := Op.load 27 _, type := _, pos := _, after := _, guard := _ } :: _) _ _; refine Shut.out ?_)
      show wpList _ _ _ _ _ _
      refine wpList_valG (.agg ([.string m, .string t, .int .i64 mi, .slice aP nP cP, .slice aB nb cB, .bool cl] : List Value).toArray) (by kernel_rfl) (exec_load6 rfl rfl HP15.out.range) ?_
      simp only [Act.put, List.setIfInBounds_toArray, List.set_cons_zero, List.set_cons_succ]
      go_wp2_with fail
      refine HTw.out.mono ?_
      rintro e wk ⟨rfl, uk⟩
      have HUk := Hid.of (HU15.out.trans uk)
      clear uk
      dsimp only
      go_wp2
      go_ret
      exact ⟨rfl, HUk.out⟩
    · have hb0z : ((nb : Int) == 0) = false := by rw [beq_eq_false_iff_ne]; omega
      have HTF := Hid.of (show tld F (nb : Int) = FF by have h1 := tld_frF F bd.length; rw [HBn.out, if_neg hb0, ← HBn.out, HFF.out, HBn.out] at h1; exact h1)
      clear hb0
      go_wp2_with fail
      refine (ParseRequest_walk ad hL40 w6 HS8.out (HW.out.up HU6.out)).mono ?_
      rintro e w7 ⟨hR7, h9⟩
      rw [HP0.out] at hR7
      obtain ⟨aP, cP, vP, rfl, hO7⟩ := hR7
      have HU7 := Hid.of (HU6.out.trans h9)
      have Hk7 := Hid.of h9
      have HR7 := Hid.of (HR6.out.up h9)
      have HQ7 := Hid.of (HQ6.out.up h9)
      obtain ⟨aB, cB, rfl⟩ := row_len hO7.out.2
      have HF7 := Hid.of hO7.out.1
      have HB7 := Hid.of hO7.out.2
      clear hO7 h9
      unfold rqV
      dsimp only at HF7 HB7 ⊢
      rw [vs_data', vs_data', HNPx.out, HBn.out]
      rw [HBn.out] at HB7
      obtain ⟨cl, hcl⟩ : ∃ cl, cls (mi == 0) FF = cl := ⟨_, rfl⟩
      have HCl := Hid.of hcl
      rw [hcl]
      clear hcl
      obtain ⟨w8, hw8⟩ : ∃ w8, w7.alloc (.cells #[.string m, .string t, .int .i64 mi, .slice aP nP cP, .slice aB nb cB, .bool cl] 27) = w8 := ⟨_, rfl⟩
      have HU8 := Hid.of (show Up w w8 by rw [← hw8]; exact HU7.out.alloc _)
      have HP8 := Hid.of (show At w8 w7.heap.size 27 [.string m, .string t, .int .i64 mi, .slice aP nP cP, .slice aB nb cB, .bool cl] by rw [← hw8]; exact at_new w7 27 [.string m, .string t, .int .i64 mi, .slice aP nP cP, .slice aB nb cB, .bool cl])
      have Hu8 := Hid.of (show Up w7 w8 by rw [← hw8]; exact (Up.refl w7).alloc _)
      have HR8 := Hid.of (HR7.out.up Hu8.out)
      have HQ8 := Hid.of (HQ7.out.up Hu8.out)
      have Hk8 := Hid.of (Hk7.out.trans Hu8.out)
      have HW8 := Hid.of hw8
      have HFp := Hid.of (fun (w2 : World) (hu : Up w8 w2) => FdO.fdl (ow_up HF7.out (Hu8.out.trans hu)))
      clear hw8
      have hcv1 := conv_sb2 (Ow.sb (ow_up HB7.out Hu8.out))
      have hcv2 := conv_sb2 ((HBr.out w8 Hk8.out))
      have p0 := HP8.out.cell (i := 0) rfl
      have p1 := HP8.out.cell (i := 1) rfl
      have p2 := HP8.out.cell (i := 2) rfl
      have p4 := HP8.out.cell (i := 4) rfl
      have q0 := HQ8.out.cell (i := 0) rfl
      have q1 := HQ8.out.cell (i := 1) rfl
      have q2 := HQ8.out.cell (i := 2) rfl
      have r4 := HR8.out.cell (i := 4) rfl
      rw [← HW8.out] at p0 p1 p2 p4 q0 q1 q2 r4 hcv1 hcv2
      go_wp2
      change Code.wp _ _ _ _ (w7.alloc (.cells #[.string m, .string t, .int .i64 mi, .slice aP nP cP, .slice aB nb cB, .bool cl] 27))
      rw [HW8.out]
      clear p0 p1 p2 p4 q0 q1 q2 r4 hcv1 hcv2 HW8
      have HTd := Hid.of (fun (w2 : World) (hu : Up w6 w2) => told_walk aF F cF (nb : Int) w2 (HF6.out.up hu) (HW.out.up (HU6.out.trans hu)).gn (by omega) (by omega) (by omega))
      rw [HNF.out, HTF.out, HNPx.out] at HTd
      refine wp_region_held_drew (S := fun w2 => At w2 w7.heap.size 27 [.string m, .string t, .int .i64 mi, .slice aP nP cP, .slice aB nb cB, .bool cl] ∧ At w2 w4.heap.size 27 [.string m, .string t, .int .i64 mi, .slice aF nF cF, .slice aR nb cR, .bool false] ∧ Up w w2) (by kernel_rfl) ⟨HP8.out.up (Up.refl _).drew, HR8.out.up (Up.refl _).drew, HU8.out.drew⟩ (fun hS => ?_)
      refine wpAnyH_take (i := 0) (oi := { dst := some 81, op := Go.Op.fieldAddr 27 (Go.Operand.tmp 11) 3, type := 0, pos := "outright.go:106", after := #[], guard := none }) (v := .pointer (some ⟨w7.heap.size, 3, none⟩)) rfl (by kernel_rfl) (by kernel_rfl) (by kernel_rfl) (fun _ _ _ h => h) (Or.inl ⟨by kernel_rfl, ?_⟩) hS ?_
      · intro w5 hSw
        clear hSw hS
        go_simp
      simp only [Act.put, List.setIfInBounds_toArray, List.set_cons_zero, List.set_cons_succ]
      refine wpAnyH_take (i := 1) (oi := { dst := some 82, op := Go.Op.load 25 (Go.Operand.tmp 81), type := 25, pos := "outright.go:106", after := #[{ on := 0, ground := Go.Ground.data }], guard := none }) (v := .slice aP nP cP) rfl (by kernel_rfl) (by kernel_rfl) (by kernel_rfl) (fun _ _ _ h => h) (Or.inl ⟨by kernel_rfl, ?_⟩) hS ?_
      · intro w5 hSw
        have h0 := hSw.1.cell (i := 3) rfl
        clear hSw hS
        go_simp
      simp only [Act.put, List.setIfInBounds_toArray, List.set_cons_zero, List.set_cons_succ]
      refine wpAnyH_take (i := 2) (oi := { dst := some 83, op := Go.Op.fieldAddr 27 (Go.Operand.tmp 7) 3, type := 0, pos := "outright.go:106", after := #[], guard := none }) (v := .pointer (some ⟨w4.heap.size, 3, none⟩)) rfl (by kernel_rfl) (by kernel_rfl) (by kernel_rfl) (fun _ _ _ h => h) (Or.inl ⟨by kernel_rfl, ?_⟩) hS ?_
      · intro w5 hSw
        clear hSw hS
        go_simp
      simp only [Act.put, List.setIfInBounds_toArray, List.set_cons_zero, List.set_cons_succ]
      refine wpAnyH_take (i := 3) (oi := { dst := some 84, op := Go.Op.load 25 (Go.Operand.tmp 83), type := 25, pos := "outright.go:106", after := #[{ on := 2, ground := Go.Ground.data }], guard := none }) (v := .slice aF nF cF) rfl (by kernel_rfl) (by kernel_rfl) (by kernel_rfl) (fun _ _ _ h => h) (Or.inl ⟨by kernel_rfl, ?_⟩) hS ?_
      · intro w5 hSw
        have h0 := hSw.2.1.cell (i := 3) rfl
        clear hSw hS
        go_simp
      simp only [Act.put, List.setIfInBounds_toArray, List.set_cons_zero, List.set_cons_succ]
      refine wpAnyH_take (i := 4) (oi := { dst := some 85, op := Go.Op.move (Go.Operand.tmp 10), type := 3, pos := "outright.go:106", after := #[], guard := none }) (v := .int .i64 (nb : Int)) rfl (by kernel_rfl) (by kernel_rfl) (by kernel_rfl) (fun _ _ _ h => h) (Or.inl ⟨by kernel_rfl, ?_⟩) hS ?_
      · intro w5 hSw
        clear hSw hS
        go_simp
      simp only [Act.put, List.setIfInBounds_toArray, List.set_cons_zero, List.set_cons_succ]
      refine wpAnyH_ready (rs := [5]) (by kernel_rfl) (by simp) ?_
      refine AllReadyH.cons (o := { dst := some 86, op := Go.Op.call { callee := Go.Callee.value (Go.Operand.func 23), args := #[Go.Operand.tmp 84, Go.Operand.tmp 85], argTypes := #[25, 3] }, type := 25, pos := "outright.go:106", after := #[{ on := 3, ground := Go.Ground.data }, { on := 4, ground := Go.Ground.data }], guard := none }) rfl (fun K hK => ?_) AllReadyH.nil
      rw [if_pos (by kernel_rfl)]
      go_simp
      refine (HTd.out w8.drew (Hk8.out.drew)).mono ?_
      rintro e w9 ⟨⟨a9, c9, rfl, hO9⟩, h9⟩
      have HU9 := Hid.of (HU8.out.drew.trans h9)
      have Hk9 := Hid.of (Hk8.out.drew.trans h9)
      have HT9 := Hid.of (FdO.fdl hO9.out)
      have Hu9 := Hid.of h9
      have Hv9 := Hid.of ((Up.refl w8).drew.trans h9)
      clear h9 hO9
      dsimp only
      refine hK.out _ _ ⟨hS.1.up Hu9.out, hS.2.1.up Hu9.out, HU9.out⟩ (fun hS => ?_)
      clear hK K
      refine wpAnyH_ready (rs := [6]) (by kernel_rfl) (by simp) ?_
      refine AllReadyH.cons (o := { dst := some 87, op := Go.Op.call { callee := Go.Callee.value (Go.Operand.func 15), args := #[Go.Operand.tmp 82, Go.Operand.tmp 86], argTypes := #[25, 25] }, type := 4, pos := "outright.go:106", after := #[{ on := 1, ground := Go.Ground.data }, { on := 5, ground := Go.Ground.data }, { on := 5, ground := Go.Ground.chain }], guard := none }) rfl (fun K hK => ?_) AllReadyH.nil
      rw [if_pos (by kernel_rfl)]
      go_simp
      refine (alike_same aP a9 FF cP c9 nP HNPx.out (by omega) w9 (HFp.out w9 Hv9.out) HT9.out).mono ?_
      rintro e w10 ⟨rfl, h9⟩
      have HU10 := Hid.of (HU9.out.trans h9)
      have Hk10 := Hid.of (Hk9.out.trans h9)
      have Hv10 := Hid.of (Hv9.out.trans h9)
      dsimp only
      refine hK.out _ _ ⟨hS.1.up h9, hS.2.1.up h9, HU10.out⟩ (fun hS => ?_)
      clear hK K h9
      refine wpAnyH_take (i := 7) (oi := { dst := some 88, op := Go.Op.unOp Go.UnOp.not 4 (Go.Operand.tmp 87), type := 4, pos := "outright.go:106", after := #[{ on := 6, ground := Go.Ground.data }], guard := none }) (v := .bool false) rfl (by kernel_rfl) (by kernel_rfl) (by kernel_rfl) (fun _ _ _ h => h) (Or.inl ⟨by kernel_rfl, ?_⟩) hS ?_
      · intro w5 hSw
        clear hSw hS
        go_simp
      simp only [Act.put, List.setIfInBounds_toArray, List.set_cons_zero, List.set_cons_succ]
      refine wpAnyH_take (i := 8) (oi := { dst := some 89, op := Go.Op.move (Go.Operand.tmp 88), type := 4, pos := "outright.go:106", after := #[{ on := 7, ground := Go.Ground.data }, { on := 6, ground := Go.Ground.chain }], guard := none }) (v := .bool false) rfl (by kernel_rfl) (by kernel_rfl) (by kernel_rfl) (fun _ _ _ h => h) (Or.inl ⟨by kernel_rfl, ?_⟩) hS ?_
      · intro w5 hSw
        clear hSw hS
        go_simp
      simp only [Act.put, List.setIfInBounds_toArray, List.set_cons_zero, List.set_cons_succ]
      refine wpAnyH_take (i := 9) (oi := { dst := some 90, op := Go.Op.move (Go.Operand.tmp 8), type := 22, pos := "outright.go:106", after := #[{ on := 8, ground := Go.Ground.guard }], guard := some (8, false) }) (v := .slice a8 L c8) rfl (by kernel_rfl) (by kernel_rfl) (by kernel_rfl) (fun _ _ _ h => h) (Or.inl ⟨by kernel_rfl, ?_⟩) hS ?_
      · intro w5 hSw
        clear hSw hS
        go_simp
      simp only [Act.put, List.setIfInBounds_toArray, List.set_cons_zero, List.set_cons_succ]
      refine wpAnyH_take (i := 10) (oi := { dst := some 91, op := Go.Op.move (Go.Operand.tmp 2), type := 3, pos := "outright.go:106", after := #[{ on := 8, ground := Go.Ground.guard }], guard := some (8, false) }) (v := .int .i64 at') rfl (by kernel_rfl) (by kernel_rfl) (by kernel_rfl) (fun _ _ _ h => h) (Or.inl ⟨by kernel_rfl, ?_⟩) hS ?_
      · intro w5 hSw
        clear hSw hS
        go_simp
      simp only [Act.put, List.setIfInBounds_toArray, List.set_cons_zero, List.set_cons_succ]
      refine wpAnyH_ready (rs := [11]) (by kernel_rfl) (by simp) ?_
      refine AllReadyH.cons (o := { dst := some 92, op := Go.Op.call { callee := Go.Callee.value (Go.Operand.func 24), args := #[Go.Operand.tmp 90, Go.Operand.tmp 91], argTypes := #[22, 3] }, type := 4, pos := "outright.go:106", after := #[{ on := 9, ground := Go.Ground.data }, { on := 10, ground := Go.Ground.data }, { on := 8, ground := Go.Ground.chain }, { on := 8, ground := Go.Ground.guard }], guard := some (8, false) }) rfl (fun K hK => ?_) AllReadyH.nil
      rw [if_pos (by kernel_rfl)]
      go_simp
      refine (HSh.out w10 Hk10.out).mono ?_
      rintro e w11 ⟨rfl, h9⟩
      have HU11 := Hid.of (HU10.out.trans h9)
      have Hk11 := Hid.of (Hk10.out.trans h9)
      have Hv11 := Hid.of (Hv10.out.trans h9)
      dsimp only
      have HP11 := Hid.of (hS.1.up h9)
      refine hK.out _ _ ⟨hS.1.up h9, hS.2.1.up h9, HU11.out⟩ (fun hS => ?_)
      clear hK K h9
      refine wpAnyH_take (i := 12) (oi := { dst := some 93, op := Go.Op.unOp Go.UnOp.not 4 (Go.Operand.tmp 92), type := 4, pos := "outright.go:106", after := #[{ on := 11, ground := Go.Ground.data }, { on := 8, ground := Go.Ground.guard }], guard := some (8, false) }) (v := .bool false) rfl (by kernel_rfl) (by kernel_rfl) (by kernel_rfl) (fun _ _ _ h => h) (Or.inl ⟨by kernel_rfl, ?_⟩) hS ?_
      · intro w5 hSw
        clear hSw hS
        go_simp
      simp only [Act.put, List.setIfInBounds_toArray, List.set_cons_zero, List.set_cons_succ]
      refine wpAnyH_take (i := 13) (oi := { dst := some 94, op := Go.Op.pick (Go.Operand.tmp 89) (Go.Operand.const (Go.Value.bool true)) (Go.Operand.tmp 93), type := 4, pos := "outright.go:106", after := #[{ on := 8, ground := Go.Ground.data }, { on := 12, ground := Go.Ground.data }], guard := none }) (v := .bool false) rfl (by kernel_rfl) (by kernel_rfl) (by kernel_rfl) (fun _ _ _ h => h) (Or.inl ⟨by kernel_rfl, ?_⟩) hS ?_
      · intro w5 hSw
        clear hSw hS
        go_simp
      simp only [Act.put, List.setIfInBounds_toArray, List.set_cons_zero, List.set_cons_succ]
      clear hS
      refine wpAnyH_done (by kernel_rfl) ?_ _
      go_wp2_with (with_reducible show wpList _ _ _ ({ dst := _, op := Op.call { callee := Callee.builtin Builtin.append, args := _, argTypes := _ }, type := _, pos := _, after := _, guard := _ } :: _) _ _; refine Shut.out ?_)
      show wpList _ _ _ _ _ _
      have HO11 := Hid.of (ow_up HO8.out Hk11.out)
      have HO11' := Hid.of (show w11.ownsRow w5.heap.size 5 1 (.slice a8 L c8) L (cb l) by have h1 := HO11.out; unfold Ow at h1; rw [HL.out] at h1; exact h1)
      refine wpList_appSb2 (N := w5.heap.size) rfl _ _ rfl a8 c8 l _ tl rfl rfl (HT.out.up HU11.out) HO11'.out (Hk6.out.trans Hk11.out).size (by omega) ?_
      intro a12 c12 w12 o12 u12 g12
      have HU12 := Hid.of (HU5.out.trans (u12 w5 (Hk6.out.trans Hk11.out) (Nat.le_refl _)))
      have HP12 := Hid.of (HP11.out.by g12 (own_ne HO11'.out HP11.out (by decide)))
      have HF12 := Hid.of (FdO.fdl (show FdO w12 w6.heap.size aP FF cP from World.ownsRow.kept (ow_up HF7.out (Hu8.out.trans Hv11.out)) g12 (own_off (ow_up HF7.out (Hu8.out.trans Hv11.out)) HO11'.out (by decide))))
      have HB12 := Hid.of (show Sb w12 (.slice aB nb cB) bd from Ow.sb (B := w6.heap.size) (World.ownsRow.kept (ow_up HB7.out (Hu8.out.trans Hv11.out)) g12 (by
        cases hv : (Value.slice aB nb cB).ownBlock with
        | none => exact .inl rfl
        | some g =>
          refine .inr (fun e => ?_)
          have h1 := (World.ownsRow.lt HB7.out g hv).1
          have h2 := (World.ownsRow.lt HO8.out g e.symm).2
          omega)))
      have HS12 := Hid.of (show Sb w12 (.slice a12 (L + tl.length) c12) (l ++ tl) from Ow.sb (B := w5.heap.size) (by
        unfold Ow
        rw [List.length_append, HL.out]
        exact o12))
      clear o12 u12 g12
      simp only [Act.put, List.setIfInBounds_toArray, List.set_cons_zero, List.set_cons_succ]
      go_wp2_with fail
      refine (padded_walk (.slice a12 (L + tl.length) c12) (l ++ tl) 0 (by rw [List.length_append, HL.out]; omega) w12 HS12.out).mono ?_
      rintro e w13 ⟨v13, rfl, hO13, h9⟩
      have hpd : pdd (l ++ tl) 0 = l ++ tl := by unfold pdd; simp
      rw [hpd] at hO13
      obtain ⟨a13, c13, rfl⟩ := row_len hO13
      have HS13 := Hid.of (Ow.sb hO13)
      have HU13 := Hid.of (HU12.out.trans h9)
      have Hk13 := Hid.of h9
      have hl13 : (l ++ tl).length ≤ 1099511627776 := by rw [List.length_append, HL.out]; omega
      clear h9 hO13 hpd
      generalize hN13 : (l ++ tl).length = N13 at HS13 hl13 ⊢
      clear hN13
      dsimp only
      go_wp2_with fail
      refine (ParseRequest_walk ad hl13 w13 HS13.out (HW.out.up HU13.out)).mono ?_
      rintro e w14 ⟨hR14, h9⟩
      rw [HPt.out] at hR14
      obtain ⟨aS, cS, vS, rfl, hO14⟩ := hR14
      obtain ⟨aC, cC, rfl⟩ := row_len hO14.out.2
      have HU14 := Hid.of (HU13.out.trans h9)
      have Hk14 := Hid.of (Hk13.out.trans h9)
      have HG14 := Hid.of (FdO.fdl hO14.out.1)
      have HC14 := Hid.of (Ow.sb hO14.out.2)
      clear h9 hO14
      unfold rqV
      dsimp only at HG14 HC14 ⊢
      rw [vs_data', vs_data', HNPx.out, HBn.out, HCl.out]
      rw [HBn.out] at HC14
      obtain ⟨w15, hw15⟩ : ∃ w15, w14.alloc (.cells #[.string m, .string t, .int .i64 mi, .slice aS nP cS, .slice aC nb cC, .bool cl] 27) = w15 := ⟨_, rfl⟩
      have HU15 := Hid.of (show Up w w15 by rw [← hw15]; exact HU14.out.alloc _)
      have HS15 := Hid.of (show At w15 w14.heap.size 27 [.string m, .string t, .int .i64 mi, .slice aS nP cS, .slice aC nb cC, .bool cl] by rw [← hw15]; exact at_new w14 27 [.string m, .string t, .int .i64 mi, .slice aS nP cS, .slice aC nb cC, .bool cl])
      have Hu15 := Hid.of (show Up w14 w15 by rw [← hw15]; exact (Up.refl w14).alloc _)
      have HP15 := Hid.of (HP12.out.up (Hk14.out.trans Hu15.out))
      have HF15 := Hid.of (HF12.out.up (Hk14.out.trans Hu15.out))
      have HB15 := Hid.of (HB12.out.up (Hk14.out.trans Hu15.out))
      have HG15 := Hid.of (HG14.out.up Hu15.out)
      have HC15 := Hid.of (HC14.out.up Hu15.out)
      have HW15 := Hid.of hw15
      clear hw15
      have y1 : ((L : Int) == (L : Int)) = true := by simp
      have HTw := Hid.of (twins_same m t mi FF nP cl aS aP cS cP (.slice aC nb cC) (.slice aB nb cB) bd HNPx.out (by omega) w15 HG15.out HF15.out HC15.out HB15.out)
      go_wp2_with (with_reducible show wpList _ _ _ ({ dst := _, op := Op.load 27 _, type := _, pos := _, after := _, guard := _ } :: _) _ _; refine Shut.out ?_)
      show wpList _ _ _ _ _ _
      change wpList _ _ _ _ _ (w14.alloc (.cells #[.string m, .string t, .int .i64 mi, .slice aS nP cS, .slice aC nb cC, .bool cl] 27))
      rw [HW15.out]
      refine wpList_valG (.agg ([.string m, .string t, .int .i64 mi, .slice aS nP cS, .slice aC nb cC, .bool cl] : List Value).toArray) (by kernel_rfl) (exec_load6 rfl rfl HS15.out.range) ?_
      simp only [Act.put, List.setIfInBounds_toArray, List.set_cons_zero, List.set_cons_succ]
      go_wp2_with (with_reducible show wpList _ _ _ ({ dst := _, op := Op.load 27 _, type := _, pos := _, after := _, guard := _ } :: _) _ _; refine Shut.out ?_)
      show wpList _ _ _ _ _ _
      refine wpList_valG (.agg ([.string m, .string t, .int .i64 mi, .slice aP nP cP, .slice aB nb cB, .bool cl] : List Value).toArray) (by kernel_rfl) (exec_load6 rfl rfl HP15.out.range) ?_
      simp only [Act.put, List.setIfInBounds_toArray, List.set_cons_zero, List.set_cons_succ]
      go_wp2_with fail
      refine HTw.out.mono ?_
      rintro e wk ⟨rfl, uk⟩
      have HUk := Hid.of (HU15.out.trans uk)
      clear uk
      dsimp only
      go_wp2
      go_ret
      exact ⟨rfl, HUk.out⟩
end Go.Proofs.YtbgjnghjddcooaaGreatDoor
namespace Go.Proofs.YtbgjnghjddcooaaGreatDoor
open Go.RowKit Go.Shelf TextNum
/-- a request of the law as it lies -/
structure LR where
  m : ByteArray
  t : ByteArray
  mi : Int
  an : Option Addr
  ns : List ByteArray
  cn : Nat
  av : Option Addr
  us : List ByteArray
  cv : Nat
  ab : Option Addr
  nb : Nat
  cb : Nat
  bd : List UInt8
  pad : Int
def lrc (q : LR) : List Value := [.string q.m, .string q.t, .int .i64 q.mi, .slice q.an q.ns.length q.cn, .slice q.av q.us.length q.cv, .slice q.ab q.nb q.cb, .int .i64 q.pad]
structure LRok (w : World) (q : LR) : Prop where
  hN : StL w q.an q.ns q.cn
  hV : StL w q.av q.us q.cv
  hB : Sb w (.slice q.ab q.nb q.cb) q.bd
  mi0 : -9223372036854775808 ≤ q.mi
  mi1 : q.mi ≤ 9223372036854775807
  nl : q.ns.length ≤ 1048576
  bl : q.bd.length ≤ 1048576
  ml : q.m.size ≤ 1048576
  tl : q.t.size ≤ 1048576
  zl : szs (mkF q.ns q.us) ≤ 1099511627000
theorem LRok.up {w w' : World} {q : LR} (h : LRok w q) (u : Up w w') : LRok w' q := ⟨h.hN.up u, h.hV.up u, h.hB.up u, h.mi0, h.mi1, h.nl, h.bl, h.ml, h.tl, h.zl⟩
structure LRL (w : World) (a : Option Addr) (qs : List LR) (c : Nat) : Prop where
  cap : qs.length ≤ c
  cells : ∀ i (h : i < qs.length), ∃ b off, a = some ⟨b, off, none⟩ ∧ w.rangeAt b (off + i * 7) (lrc qs[i])
  ok : ∀ q ∈ qs, LRok w q
theorem LRL.up {w w' : World} {a : Option Addr} {qs : List LR} {c : Nat} (h : LRL w a qs c) (u : Up w w') : LRL w' a qs c :=
  ⟨h.cap, fun i hi => by obtain ⟨b, off, e, k⟩ := h.cells i hi; exact ⟨b, off, e, range_up k u⟩, fun q hq => (h.ok q hq).up u⟩
theorem exec_idxLr {o : Oper} {ρ : Operand → Value} {x y : Operand} {w : World} {b off n c : Nat} (i : Nat) (hi : i < n) (ho : o.op = .indexAddr 46 x y) (hx : ρ x = .slice (some ⟨b, off, none⟩) n c) (hy : ρ y = .int .i64 (i : Int)) : (execOp ρ o).run Tryz.prog w = .ok (.value (.pointer (some ⟨b, off + i * 7, none⟩))) w := by
  have hi' : (i : Int) < (n : Int) := by omega
  unfold execOp
  simp only [ho, hx, hy]
  go_simp
theorem exec_idxWr {o : Oper} {ρ : Operand → Value} {x y : Operand} {w : World} {b off n c : Nat} (i : Nat) (hi : i < n) (ho : o.op = .indexAddr 47 x y) (hx : ρ x = .slice (some ⟨b, off, none⟩) n c) (hy : ρ y = .int .i64 (i : Int)) : (execOp ρ o).run Tryz.prog w = .ok (.value (.pointer (some ⟨b, off + i * 6, none⟩))) w := by
  have hi' : (i : Int) < (n : Int) := by omega
  unfold execOp
  simp only [ho, hx, hy]
  go_simp
/-- a request of the program that is wanted, with its printed form -/
structure WR where
  m : ByteArray
  t : ByteArray
  mi : Int
  aF : Option Addr
  nF : Nat
  cF : Nat
  aR : Option Addr
  nR : Nat
  cR : Nat
  bd : List UInt8
  l : List UInt8
def wrc (x : WR) : List Value := [.string x.m, .string x.t, .int .i64 x.mi, .slice x.aF x.nF x.cF, .slice x.aR x.nR x.cR, .bool false]
def wrs (xs : List WR) : List Value := xs.flatMap wrc
theorem wrs_snoc (xs : List WR) (x : WR) : wrs (xs ++ [x]) = wrs xs ++ wrc x := by simp [wrs]
theorem wrs_get : ∀ (xs : List WR) {i : Nat} (hi : i < xs.length) (j : Nat) (v : Value), (wrc xs[i])[j]? = some v → (wrs xs)[i * 6 + j]? = some v
  | g :: r, 0, _, j, v, hv => by
    have e : wrs (g :: r) = wrc g ++ wrs r := rfl
    have hv2 : (wrc g)[j]? = some v := hv
    rw [e, Nat.zero_mul, Nat.zero_add, List.getElem?_append_left (List.getElem?_eq_some_iff.1 hv2).1]
    exact hv2
  | g :: r, i + 1, hi, j, v, hv => by
    have ih := wrs_get r (i := i) (by simpa using hi) j v hv
    have e : wrs (g :: r) = wrc g ++ wrs r := rfl
    have hl : (wrc g).length = 6 := rfl
    rw [e, List.getElem?_append_right (by rw [hl]; omega), hl, show (i + 1) * 6 + j - 6 = i * 6 + j by omega]
    exact ih
abbrev WRO (w : World) (N : Nat) (a : Option Addr) (xs : List WR) (c : Nat) : Prop := w.ownsRow N 27 6 (.slice a xs.length c) xs.length (wrs xs)
theorem WRO.get {w : World} {N : Nat} {a : Option Addr} {xs : List WR} {c : Nat} (h : WRO w N a xs c) {i : Nat} (hi : i < xs.length) : ∃ b, a = some ⟨b, 0, none⟩ ∧ ∀ j v, (wrc xs[i])[j]? = some v → w.cell? ⟨b, 0 + i * 6 + j, none⟩ = some v := by
  rcases h.2 with ⟨_, h0⟩ | ⟨g, cap, cur, e, _, _, hc, _⟩
  · omega
  · injection e with e1 _ e3
    subst e1 e3
    have hc := World.ownsRow.cells h rfl
    refine ⟨g, rfl, fun j v hv => ?_⟩
    have h1 := hc (i * 6 + j) _ (wrs_get xs hi j v hv)
    rw [Addr.add_lit] at h1
    rw [show 0 + i * 6 + j = 0 + (i * 6 + j) by omega]
    exact h1
theorem WRO.cap {w : World} {N : Nat} {a : Option Addr} {xs : List WR} {c : Nat} (h : WRO w N a xs c) : xs.length ≤ c := by
  rcases h.2 with ⟨_, h0⟩ | ⟨g, cap, cur, e, _, _, hc, _⟩
  · omega
  · injection e with _ _ e3
    omega
theorem Tryz.infoWr : (Tryz.prog.info? 27).map (fun i => (i.zero, i.size, i.bytes)) = some (some (.agg #[.string ⟨#[]⟩, .string ⟨#[]⟩, .int .i64 0, .slice none 0 0, .slice none 0 0, .bool false]), 6, 96) := by kernel_rfl
/-- one request is appended -/
theorem wpList_appWr {w : World} {N q : Nat} {ops : Array Oper} {rest : List Oper} {o : Oper} {a : Act} {Q : Exit → Act → World → Prop} (hgd : o.guard = none) (x y : Operand)
    (ho : o.op = .call { callee := .builtin .append, args := #[x, y], argTypes := #[47, 47] }) (ax : Option Addr) (cx : Nat) (fs : List WR) (f : WR) (hq : fs.length = q) (hx : a.eval x = .slice ax q cx) (hy : a.eval y = .slice (some ⟨w.heap.size, 0, none⟩) 1 1)
    (hR : WRO w N ax fs cx) (hNw : N ≤ w.heap.size) (hql : q ≤ 1099511627776)
    (K : ∀ ax2 cx2 w', WRO w' N ax2 (fs ++ [f]) cx2 → (∀ W, Up W w → W.heap.size ≤ N → Up W w') → w.grownBy w' (Value.slice ax q cx).ownBlock → wpList Tryz.prog ops Q rest (a.put o.dst (.slice ax2 (q + 1) cx2)) w') :
    wpList Tryz.prog ops Q (o :: rest) a (w.alloc (.cells (wrc f).toArray 27)) := by
  subst hq
  obtain ⟨i1, hi1, hz0, hz1, hz2⟩ := info_parts Tryz.infoWr
  have HUx := (Up.refl w).alloc (.cells (wrc f).toArray 27)
  have hnu := ow_up hR HUx
  refine wpList_append_own _ hgd x y 47 ho N 27 i1 (.agg #[.string ⟨#[]⟩, .string ⟨#[]⟩, .int .i64 0, .slice none 0 0, .slice none 0 0, .bool false]) 6 96 Tryz.underlying47 hi1 hz0 hz1 hz2 rfl (by omega) (.slice ax fs.length cx) fs.length _ hx hnu ⟨w.heap.size, 0, none⟩ 1 1 (wrc f) hy rfl ?_ ?_ (by simp only [maxLen]; omega) (by omega) (Nat.le_trans hNw HUx.size) ?_
  · intro j u hu
    rw [Addr.add_lit]
    exact At.cell (at_new w 27 (wrc f)) (i := 0 + j) (by rw [Nat.zero_add]; exact hu)
  · intro u hu
    unfold wrc at hu
    simp only [List.mem_cons, List.not_mem_nil, or_false] at hu
    rcases hu with rfl | rfl | rfl | rfl | rfl | rfl <;> rfl
  intro v8 w8 o8 g8 _
  obtain ⟨ax2, cx2, rfl⟩ : ∃ ax2 cx2, v8 = .slice ax2 (fs.length + 1) cx2 := by
    rcases o8.2 with ⟨_, h0⟩ | ⟨g, cap, cur, e1, _⟩
    · omega
    · exact ⟨_, cap, e1⟩
  refine K ax2 cx2 w8 ?_ (fun W hU hW => up_grownBy (hU.trans HUx) g8 (fun k hk => Nat.le_trans hW (World.ownsRow.lt hR k hk).1)) (up_grown HUx g8)
  show w8.ownsRow N 27 6 (.slice ax2 (fs ++ [f]).length cx2) (fs ++ [f]).length (wrs (fs ++ [f]))
  rw [List.length_append, wrs_snoc]
  exact o8
/-- bytes that are read are appended: the row's block is the old one or a new one -/
theorem wpList_appSb3 {w : World} {N q : Nat} {ops : Array Oper} {rest : List Oper} {o : Oper} {a : Act} {Q : Exit → Act → World → Prop} (hgd : o.guard = none) (x y : Operand)
    (ho : o.op = .call { callee := .builtin .append, args := #[x, y], argTypes := #[22, 22] }) (ax : Option Addr) (cx : Nat) (xs : List UInt8) (vy : Value) (ds : List UInt8) (hx : a.eval x = .slice ax q cx) (hy : a.eval y = vy) (hSb : Sb w vy ds)
    (hR : w.ownsRow N 5 1 (.slice ax q cx) q (cb xs)) (hNw : N ≤ w.heap.size) (hql : q + ds.length ≤ 1099511627776)
    (K : ∀ ax2 cx2 w', w'.ownsRow N 5 1 (.slice ax2 (q + ds.length) cx2) (q + ds.length) (cb (xs ++ ds)) → (∀ W, Up W w → W.heap.size ≤ N → Up W w') → w.grownBy w' (Value.slice ax q cx).ownBlock → (∀ g, (Value.slice ax2 (q + ds.length) cx2).ownBlock = some g → (Value.slice ax q cx).ownBlock = some g ∨ w.heap.size ≤ g) → wpList Tryz.prog ops Q rest (a.put o.dst (.slice ax2 (q + ds.length) cx2)) w') :
    wpList Tryz.prog ops Q (o :: rest) a w := by
  obtain ⟨i0, hi0, hz0, hz1, hz2⟩ := info_parts Tryz.infoU8
  obtain ⟨ay, cy, rfl, k1, k2, k3, k4⟩ := hSb
  cases ay with
  | none =>
    obtain ⟨rfl, rfl⟩ := k3 rfl
    refine wpList_plain hgd fun K2 hK => ?_
    have hr := run_app_none (ty := o.type) (c := 0) hR
    unfold Oper.wp execOp
    simp only [List.length_nil] at hy
    simp only [ho, resolve, invoke, builtin, Sem.run_bind, Sem.run_pure, Result.andThen_ok, List.map_toArray, List.map_cons, List.map_nil, hx, hy, hr]
    exact hK _ _ (K ax cx w (by rw [List.append_nil]; exact hR) (fun W hU _ => hU) (World.grownBy.refl _ _) (fun g hg => .inl hg))
  | some ad =>
    refine wpList_append_frs hgd x y 22 ho N 5 i0 (.int .u8 0) 1 Tryz.underlying22 hi0 hz0 hz1 hz2 rfl _ q _ hx hR ad ds.length cy (cb ds) hy (by rw [cb_length]; omega) (k4 ad rfl).2 (cb_one ds) (by simp only [maxLen]; omega) (by omega) hNw ?_
    intro v8 w8 o8 g8 f8
    obtain ⟨a4, c4, rfl⟩ := row_len o8
    exact K a4 c4 w8 (by rw [cb_append]; exact o8) (fun W hU hW => up_grownBy hU g8 (fun g hg => Nat.le_trans hW (World.ownsRow.lt hR g hg).1)) g8 (fun g hg => f8 g hg)
end Go.Proofs.YtbgjnghjddcooaaGreatDoor
namespace Go.Proofs.YtbgjnghjddcooaaGreatDoor
open Go.RowKit Go.Shelf TextNum
/-- a digit of sixteen, and the text of a number -/
def hdg (n : Nat) : UInt8 := [48, 49, 50, 51, 52, 53, 54, 55, 56, 57, 97, 98, 99, 100, 101, 102].getD n 0
def hexL (n : Nat) : List UInt8 := if _h : n < 16 then [hdg n] else hexL (n / 16) ++ [hdg (n % 16)]
theorem hexL_lt {n : Nat} (h : n < 16) : hexL n = [hdg n] := by rw [hexL, dif_pos h]
theorem hexL_ge {n : Nat} (h : ¬ n < 16) : hexL n = hexL (n / 16) ++ [hdg (n % 16)] := by rw [hexL, dif_neg h]
/-- what the table of bits' places tells of sixteen -/
def GD (w : World) : Prop := w.cell? ⟨20, 15, none⟩ = some (.int .u8 4)
set_option maxRecDepth 100000 in
set_option maxHeartbeats 1000000 in
theorem TrailingZeros64_16 (w : World) (h : GD w) : Calls Tryz.prog 159 #[.int .u64 16] w fun e w' => e = .returned (.int .i64 4) ∧ w' = w := by
  unfold GD at h
  have e1 : bits BinOp.and IntKind.u64 16 (IntKind.u64.wrap (-16)) = 16 := by decide +kernel
  have e2 : IntKind.u64.wrap (16 * 285870213051353865) / 288230376151711744 = 15 := by decide +kernel
  go_enter Tryz.func159, Tryz.ntmps159
  go_wp2
  go_ret
  exact ⟨rfl, rfl⟩
set_option maxRecDepth 100000 in
set_option maxHeartbeats 1000000 in
theorem TrailingZeros_16 (w : World) (h : GD w) : Calls Tryz.prog 147 #[.int .u64 16] w fun e w' => e = .returned (.int .i64 4) ∧ w' = w := by
  have HT := Hid.of (TrailingZeros64_16 w h)
  clear h
  go_enter Tryz.func147, Tryz.ntmps147
  go_wp2_with fail
  refine HT.out.mono ?_
  rintro e w2 ⟨rfl, h9⟩
  obtain rfl := h9.symm
  clear h9
  dsimp only
  go_wp2
  go_ret
  exact ⟨rfl, rfl⟩
set_option maxRecDepth 100000 in
theorem isPowerOfTwo_16 (w : World) : Calls Tryz.prog 146 #[.int .i64 16] w fun e w' => e = .returned (.bool true) ∧ w' = w := by
  go_enter Tryz.func146, Tryz.ntmps146
  go_wp2
  go_ret
  exact ⟨rfl, rfl⟩
end Go.Proofs.YtbgjnghjddcooaaGreatDoor
namespace Go.Proofs.YtbgjnghjddcooaaGreatDoor
open Go.RowKit Go.Shelf TextNum
theorem and15 (q : Nat) (hq : q < 18446744073709551616) : bits .and .u64 (q : Int) 15 = ((q % 16 : Nat) : Int) := by
  have := bits_and_u64_nat q 15 hq (by omega)
  have e : q &&& 15 = q % 16 := Nat.and_two_pow_sub_one_eq_mod q 4
  rw [e] at this
  exact this
def dgT : ByteArray := ⟨#[48, 49, 50, 51, 52, 53, 54, 55, 56, 57, 97, 98, 99, 100, 101, 102, 103, 104, 105, 106, 107, 108, 109, 110, 111, 112, 113, 114, 115, 116, 117, 118, 119, 120, 121, 122]⟩
theorem run_dig (w : World) : ∀ d : Nat, d < 16 → (Instr.index 9 (.string dgT) (.int .u64 (d : Int))).run Tryz.prog w = .ok (vb (hdg d)) w
  | 0, _ => by kernel_rfl
  | 1, _ => by kernel_rfl
  | 2, _ => by kernel_rfl
  | 3, _ => by kernel_rfl
  | 4, _ => by kernel_rfl
  | 5, _ => by kernel_rfl
  | 6, _ => by kernel_rfl
  | 7, _ => by kernel_rfl
  | 8, _ => by kernel_rfl
  | 9, _ => by kernel_rfl
  | 10, _ => by kernel_rfl
  | 11, _ => by kernel_rfl
  | 12, _ => by kernel_rfl
  | 13, _ => by kernel_rfl
  | 14, _ => by kernel_rfl
  | 15, _ => by kernel_rfl
  | n + 16, h => by omega
theorem exec_dig {o : Oper} {ρ : Operand → Value} {y : Operand} {w : World} (d : Nat) (hd : d < 16) (ho : o.op = .index 9 (.const (.string dgT)) y) (hx : ρ (.const (.string dgT)) = .string dgT) (hy : ρ y = .int .u64 (d : Int)) : (execOp ρ o).run Tryz.prog w = .ok (.value (vb (hdg d))) w := by
  unfold execOp
  simp only [ho, hx, hy]
  rw [Sem.run_bind, run_dig w d hd]
  rfl
set_option maxRecDepth 100000 in
theorem run_suba (w : World) (b lo : Nat) (h : lo < 65) : (Instr.sliceAt 200 (.pointer (some ⟨b, 0, none⟩)) (some (.int .i64 (lo : Int))) none none).run Tryz.prog w = .ok (.slice (some ⟨b, lo, none⟩) (65 - lo) (65 - lo)) w := by
  have hal : Tryz.prog.arrayLen 200 = 65 := by kernel_rfl
  rw [run_sliceAt_array_l w 200 ⟨b, 0, none⟩ (by kernel_rfl) .i64 (lo : Int) (by omega) (by rw [hal]; omega), hal]
  have hs : (sizeOf (Tryz.prog.elem 200)).run Tryz.prog w = .ok 1 w := by kernel_rfl
  rw [hs, Result.andThen_ok]
  unfold slicedAt
  rw [if_neg (by omega), Addr.add_lit, Int.toNat_natCast, Nat.mul_one, Nat.zero_add]
theorem exec_suba {o : Oper} {ρ : Operand → Value} {x y : Operand} {w : World} {b lo : Nat} (h : lo < 65) (ho : o.op = .slice 200 x (some y) none none) (hx : ρ x = .pointer (some ⟨b, 0, none⟩)) (hy : ρ y = .int .i64 (lo : Int)) :
    (execOp ρ o).run Tryz.prog w = .ok (.value (.slice (some ⟨b, lo, none⟩) (65 - lo) (65 - lo))) w := by
  unfold execOp
  simp only [ho, hx, Option.map_some, Option.map_none, hy]
  rw [Sem.run_bind, run_suba w b lo h]
  rfl
set_option maxRecDepth 100000 in
set_option maxHeartbeats 4000000 in
theorem formatBits_hex (a : Option Addr) (q c : Nat) (xs : List UInt8) (N u : Nat) (w : World) (hR : w.ownsRow N 5 1 (.slice a q c) q (cb xs)) (hN : N ≤ w.heap.size) (hq : q ≤ 1099511627) (hu : u ≤ 65536) (hG : GD w) :
    Calls Tryz.prog 129 #[.slice a q c, .int .u64 (u : Int), .int .i64 16, .bool false, .bool true] w fun e w' => (∃ a2 c2, e = .returned (.tuple #[.slice a2 (q + (hexL u).length) c2, .string ⟨#[]⟩]) ∧ Hid (w'.ownsRow N 5 1 (.slice a2 (q + (hexL u).length) c2) (q + (hexL u).length) (cb (xs ++ hexL u)))) ∧ (∀ W, Up W w → W.heap.size ≤ N → Up W w') := by
  have HR := Hid.of hR
  have HN := Hid.of hN
  have HG := Hid.of hG
  clear hR hN hG
  have HA0 := Hid.of (at_new w 200 [.int .u8 0, .int .u8 0, .int .u8 0, .int .u8 0, .int .u8 0, .int .u8 0, .int .u8 0, .int .u8 0, .int .u8 0, .int .u8 0, .int .u8 0, .int .u8 0, .int .u8 0, .int .u8 0, .int .u8 0, .int .u8 0, .int .u8 0, .int .u8 0, .int .u8 0, .int .u8 0, .int .u8 0, .int .u8 0, .int .u8 0, .int .u8 0, .int .u8 0, .int .u8 0, .int .u8 0, .int .u8 0, .int .u8 0, .int .u8 0, .int .u8 0, .int .u8 0, .int .u8 0, .int .u8 0, .int .u8 0, .int .u8 0, .int .u8 0, .int .u8 0, .int .u8 0, .int .u8 0, .int .u8 0, .int .u8 0, .int .u8 0, .int .u8 0, .int .u8 0, .int .u8 0, .int .u8 0, .int .u8 0, .int .u8 0, .int .u8 0, .int .u8 0, .int .u8 0, .int .u8 0, .int .u8 0, .int .u8 0, .int .u8 0, .int .u8 0, .int .u8 0, .int .u8 0, .int .u8 0, .int .u8 0, .int .u8 0, .int .u8 0, .int .u8 0, .int .u8 0])
  have HU0 := Hid.of ((Up.refl w).alloc (.cells ([.int .u8 0, .int .u8 0, .int .u8 0, .int .u8 0, .int .u8 0, .int .u8 0, .int .u8 0, .int .u8 0, .int .u8 0, .int .u8 0, .int .u8 0, .int .u8 0, .int .u8 0, .int .u8 0, .int .u8 0, .int .u8 0, .int .u8 0, .int .u8 0, .int .u8 0, .int .u8 0, .int .u8 0, .int .u8 0, .int .u8 0, .int .u8 0, .int .u8 0, .int .u8 0, .int .u8 0, .int .u8 0, .int .u8 0, .int .u8 0, .int .u8 0, .int .u8 0, .int .u8 0, .int .u8 0, .int .u8 0, .int .u8 0, .int .u8 0, .int .u8 0, .int .u8 0, .int .u8 0, .int .u8 0, .int .u8 0, .int .u8 0, .int .u8 0, .int .u8 0, .int .u8 0, .int .u8 0, .int .u8 0, .int .u8 0, .int .u8 0, .int .u8 0, .int .u8 0, .int .u8 0, .int .u8 0, .int .u8 0, .int .u8 0, .int .u8 0, .int .u8 0, .int .u8 0, .int .u8 0, .int .u8 0, .int .u8 0, .int .u8 0, .int .u8 0, .int .u8 0] : List Value).toArray 200))
  go_enter Tryz.func129, Tryz.ntmps129
  go_wp2_with fail
  obtain ⟨w1, hw1⟩ : ∃ w1, w.alloc (.cells ([.int .u8 0, .int .u8 0, .int .u8 0, .int .u8 0, .int .u8 0, .int .u8 0, .int .u8 0, .int .u8 0, .int .u8 0, .int .u8 0, .int .u8 0, .int .u8 0, .int .u8 0, .int .u8 0, .int .u8 0, .int .u8 0, .int .u8 0, .int .u8 0, .int .u8 0, .int .u8 0, .int .u8 0, .int .u8 0, .int .u8 0, .int .u8 0, .int .u8 0, .int .u8 0, .int .u8 0, .int .u8 0, .int .u8 0, .int .u8 0, .int .u8 0, .int .u8 0, .int .u8 0, .int .u8 0, .int .u8 0, .int .u8 0, .int .u8 0, .int .u8 0, .int .u8 0, .int .u8 0, .int .u8 0, .int .u8 0, .int .u8 0, .int .u8 0, .int .u8 0, .int .u8 0, .int .u8 0, .int .u8 0, .int .u8 0, .int .u8 0, .int .u8 0, .int .u8 0, .int .u8 0, .int .u8 0, .int .u8 0, .int .u8 0, .int .u8 0, .int .u8 0, .int .u8 0, .int .u8 0, .int .u8 0, .int .u8 0, .int .u8 0, .int .u8 0, .int .u8 0] : List Value).toArray 200) = w1 := ⟨_, rfl⟩
  rw [hw1] at HA0 HU0
  change Calls _ _ _ (w.alloc (.cells ([.int .u8 0, .int .u8 0, .int .u8 0, .int .u8 0, .int .u8 0, .int .u8 0, .int .u8 0, .int .u8 0, .int .u8 0, .int .u8 0, .int .u8 0, .int .u8 0, .int .u8 0, .int .u8 0, .int .u8 0, .int .u8 0, .int .u8 0, .int .u8 0, .int .u8 0, .int .u8 0, .int .u8 0, .int .u8 0, .int .u8 0, .int .u8 0, .int .u8 0, .int .u8 0, .int .u8 0, .int .u8 0, .int .u8 0, .int .u8 0, .int .u8 0, .int .u8 0, .int .u8 0, .int .u8 0, .int .u8 0, .int .u8 0, .int .u8 0, .int .u8 0, .int .u8 0, .int .u8 0, .int .u8 0, .int .u8 0, .int .u8 0, .int .u8 0, .int .u8 0, .int .u8 0, .int .u8 0, .int .u8 0, .int .u8 0, .int .u8 0, .int .u8 0, .int .u8 0, .int .u8 0, .int .u8 0, .int .u8 0, .int .u8 0, .int .u8 0, .int .u8 0, .int .u8 0, .int .u8 0, .int .u8 0, .int .u8 0, .int .u8 0, .int .u8 0, .int .u8 0] : List Value).toArray 200)) _
  rw [hw1]
  clear hw1
  refine (isPowerOfTwo_16 w1).mono ?_
  rintro e w2 ⟨rfl, h9⟩
  obtain rfl := h9.symm
  clear h9
  dsimp only
  go_wp2_with fail
  refine (TrailingZeros_16 w1 (HU0.out.cell HG.out)).mono ?_
  rintro e w2 ⟨rfl, h9⟩
  obtain rfl := h9.symm
  clear h9
  dsimp only
  have HJ0 := Hid.of (show ∃ cs ds : List _, At w1 w.heap.size 200 cs ∧ cs.length = 65 ∧ cs.drop 65 = cb ds ∧ hexL u = hexL u ++ ds from ⟨_, [], HA0.out, rfl, rfl, by rw [List.append_nil]⟩)
  clear HA0
  go_wp2
  go_loopw [1, 13] (fun v1 v13 wr => ∃ i cur : Nat, v13 = .int .i64 (i : Int) ∧ v1 = .int .u64 (cur : Int) ∧ ((i = 65 ∧ cur ≤ 65536) ∨ (i = 64 ∧ cur ≤ 4096) ∨ (i = 63 ∧ cur ≤ 256) ∨ (i = 62 ∧ cur ≤ 16) ∨ (i = 61 ∧ cur ≤ 1)) ∧ Hid (Up w wr ∧ ∃ cs ds : List _, At wr w.heap.size 200 cs ∧ cs.length = 65 ∧ cs.drop i = cb ds ∧ hexL u = hexL cur ++ ds)) (fun v1 _ _ => (intOf v1).toNat)
  case atStart => exact ⟨65, u, rfl, rfl, .inl ⟨rfl, hu⟩, Hid.of ⟨HU0.out, HJ0.out⟩⟩
  case round =>
    obtain ⟨i, cur, rfl, rfl, hb, hX⟩ := hrel
    obtain ⟨hU, cs, ds, hA, hl, hd, hh⟩ := hX.out
    clear hX
    have HUr := Hid.of hU
    have HA := Hid.of hA
    have HD := Hid.of hd
    have HH := Hid.of hh
    have HL := Hid.of hl
    obtain ⟨j, rfl⟩ : ∃ j, i = j + 1 := ⟨i - 1, by omega⟩
    have hj1 : 60 ≤ j ∧ j ≤ 64 := by omega
    have hjc : j < cs.length := by omega
    have kj := hA.cell (List.getElem?_eq_getElem hjc)
    have fj := hA.thaw j
    have HDj := Hid.of (fun (x : UInt8) => show (cs.set j (vb x)).drop j = cb (x :: ds) by
      rw [List.drop_eq_getElem_cons (by rw [List.length_set]; exact hjc), List.getElem_set_self, List.drop_set_of_lt (Nat.lt_succ_self j), hd]
      rfl)
    clear hU hA hd hh hl
    by_cases h16 : 16 ≤ cur
    · have h16z : (16 : Int) ≤ (cur : Int) := by omega
      obtain ⟨d, hd⟩ : ∃ d, cur % 16 = d := ⟨_, rfl⟩
      have hd16 : d < 16 := by omega
      have e15 : bits BinOp.and IntKind.u64 (cur : Int) 15 = (d : Int) := by rw [and15 cur (by omega), hd]
      have HDd := Hid.of hd
      clear hd
      go_wp2_with (with_reducible show wpList _ _ _ ({ dst := _, op := Op.index 9 _ _, type := _, pos := _, after := _, guard := _ } :: _) _ _; refine Shut.out ?_)
      show wpList _ _ _ _ _ _
      refine wpList_val7 (vb (hdg d)) rfl (exec_dig d hd16 rfl rfl rfl) ?_
      simp only [Act.put, List.setIfInBounds_toArray, List.set_cons_zero, List.set_cons_succ]
      have HA9 := Hid.of (HA.out.set j (vb (hdg d)))
      have HU9 := Hid.of (HUr.out.by (grown_set1 wr w.heap.size j (vb (hdg d))) (fun g hg => by have := Option.some.inj hg; omega))
      have HH9 := Hid.of (show hexL u = hexL (cur / 16) ++ (hdg d :: ds) by rw [HH.out, hexL_ge (by omega), HDd.out, List.append_assoc]; rfl)
      have hcz : (cur : Int) / 16 = ((cur / 16 : Nat) : Int) := by omega
      have hb2 : (j = 65 ∧ cur / 16 ≤ 65536) ∨ (j = 64 ∧ cur / 16 ≤ 4096) ∨ (j = 63 ∧ cur / 16 ≤ 256) ∨ (j = 62 ∧ cur / 16 ≤ 16) ∨ (j = 61 ∧ cur / 16 ≤ 1) := by omega
      have HCz := Hid.of hcz
      clear hcz
      go_wp2
      go_roundw
      all_goals first
        | exact ⟨j, cur / 16, by go_num, by rw [← HCz.out], hb2, Hid.of ⟨HU9.out, _, _, HA9.out, by rw [List.length_set]; exact HL.out, HDj.out (hdg d), HH9.out⟩⟩
        | (simp [intOf]; omega)
    · have h16z : ¬ (16 : Int) ≤ (cur : Int) := by omega
      have hc16 : cur < 16 := by omega
      have HA9 := Hid.of (HA.out.set j (vb (hdg cur)))
      have HU9 := Hid.of (HUr.out.by (grown_set1 wr w.heap.size j (vb (hdg cur))) (fun g hg => by have := Option.some.inj hg; omega))
      have HH9 := Hid.of (show hexL u = hdg cur :: ds by rw [HH.out, hexL_lt hc16]; rfl)
      clear hb
      go_wp2_with (with_reducible show wpList _ _ _ ({ dst := _, op := Op.index 9 _ _, type := _, pos := _, after := _, guard := _ } :: _) _ _; refine Shut.out ?_)
      show wpList _ _ _ _ _ _
      refine wpList_val7 (vb (hdg cur)) rfl (exec_dig cur hc16 rfl rfl rfl) ?_
      simp only [Act.put, List.setIfInBounds_toArray, List.set_cons_zero, List.set_cons_succ]
      go_wp2_with (with_reducible show wpList _ _ _ ({ dst := _, op := Op.slice 200 _ _ _ _, type := _, pos := _, after := _, guard := _ } :: _) _ _; refine Shut.out ?_)
      show wpList _ _ _ _ _ _
      obtain ⟨w9, hw9⟩ : ∃ w9, wr.setCell ⟨w.heap.size, j, none⟩ (vb (hdg cur)) = w9 := ⟨_, rfl⟩
      rw [hw9] at HA9 HU9
      change wpList _ _ _ _ _ (wr.setCell ⟨w.heap.size, j, none⟩ (vb (hdg cur)))
      rw [hw9]
      clear hw9 kj fj
      refine wpList_val7 (.slice (some ⟨w.heap.size, j, none⟩) (65 - j) (65 - j)) rfl (exec_suba (by omega) rfl rfl rfl) ?_
      simp only [Act.put, List.setIfInBounds_toArray, List.set_cons_zero, List.set_cons_succ]
      have HLs := Hid.of (show (hexL u).length = 65 - j by
        have h1 := HDj.out (hdg cur)
        have h2 := congrArg List.length h1
        rw [List.length_drop, List.length_set, HL.out, cb_length] at h2
        rw [HH9.out]
        omega)
      have HS9 := Hid.of (show Sb w9 (.slice (some ⟨w.heap.size, j, none⟩) (65 - j) (65 - j)) (hexL u) from ⟨some ⟨w.heap.size, j, none⟩, 65 - j, by rw [HLs.out], by rw [HLs.out]; exact Nat.le_refl _, by unfold maxLen; omega, (fun e => by cases e), fun ad e => by
        obtain rfl := Option.some.inj e
        refine ⟨fun _ => rfl, fun k v hv => ?_⟩
        rw [Addr.add_lit]
        refine HA9.out.cell ?_
        rw [HH9.out, ← HDj.out (hdg cur), List.getElem?_drop] at hv
        exact hv⟩)
      have HR9 := Hid.of (ow_up HR.out HU9.out)
      have hlu : (hexL u).length ≤ 65 := by rw [HLs.out]; omega
      clear HDj HLs HH9 HH HD HL HA HA9 hjc hj1
      go_wp2_with (with_reducible show wpList _ _ _ ({ dst := _, op := Op.call { callee := Callee.builtin Builtin.append, args := _, argTypes := _ }, type := _, pos := _, after := _, guard := _ } :: _) _ _; refine Shut.out ?_)
      show wpList _ _ _ _ _ _
      refine wpList_appSb3 (N := N) rfl _ _ rfl a c xs _ (hexL u) rfl rfl HS9.out HR9.out (Nat.le_trans HN.out HU9.out.size) (by omega) ?_
      intro a2 c2 w10 o10 u10 _ _
      have HO10 := Hid.of o10
      have HU10 := Hid.of (fun W (hW : Up W w) (hN : W.heap.size ≤ N) => u10 W (hW.trans HU9.out) hN)
      clear o10 u10
      simp only [Act.put, List.setIfInBounds_toArray, List.set_cons_zero, List.set_cons_succ]
      go_wp2
      go_ret2
      exact ⟨⟨a2, c2, rfl, HO10⟩, HU10.out⟩
end Go.Proofs.YtbgjnghjddcooaaGreatDoor
namespace Go.Proofs.YtbgjnghjddcooaaGreatDoor
open Go.RowKit Go.Shelf TextNum
/-! chunks in plain lists -/
def nib (n : Nat) : List Nat := if _h : n < 16 then [n] else nib (n / 16) ++ [n % 16]
theorem nib_lt {n : Nat} (h : n < 16) : nib n = [n] := by rw [nib, dif_pos h]
theorem nib_ge {n : Nat} (h : ¬ n < 16) : nib n = nib (n / 16) ++ [n % 16] := by rw [nib, dif_neg h]
theorem hexL_nib (n : Nat) : hexL n = (nib n).map hdg := by
  induction n using Nat.strongRecOn with
  | _ n ih =>
    by_cases h : n < 16
    · rw [hexL_lt h, nib_lt h]; rfl
    · rw [hexL_ge h, nib_ge h, ih (n / 16) (by omega), List.map_append]; rfl
theorem nib_all (n : Nat) : ∀ v ∈ nib n, v < 16 := by
  induction n using Nat.strongRecOn with
  | _ n ih =>
    by_cases h : n < 16
    · rw [nib_lt h]; intro v hv; rw [List.mem_singleton.1 hv]; exact h
    · rw [nib_ge h]
      intro v hv
      rcases List.mem_append.1 hv with hv | hv
      · exact ih (n / 16) (by omega) v hv
      · rw [List.mem_singleton.1 hv]; omega
theorem nib_val (n : Nat) : (nib n).foldl (fun z v => z * 16 + v) 0 = n := by
  induction n using Nat.strongRecOn with
  | _ n ih =>
    by_cases h : n < 16
    · rw [nib_lt h]; simp
    · rw [nib_ge h, List.foldl_append, ih (n / 16) (by omega)]
      simp only [List.foldl_cons, List.foldl_nil]
      omega
theorem nib_step (n : Nat) : (nib n).length ≤ 1 + (if n < 16 then 0 else (nib (n / 16)).length) := by
  by_cases h : n < 16
  · rw [nib_lt h, if_pos h]; simp
  · rw [nib_ge h, if_neg h, List.length_append]; simp; omega
theorem nib_len {n : Nat} (h : n ≤ 65536) : (nib n).length ≤ 5 ∧ 1 ≤ (nib n).length := by
  have hp : ∀ m, 1 ≤ (nib m).length := by
    intro m
    by_cases h : m < 16
    · rw [nib_lt h]; simp
    · rw [nib_ge h, List.length_append]; simp
  refine ⟨?_, hp n⟩
  have h1 := nib_step n
  have h2 := nib_step (n / 16)
  have h3 := nib_step (n / 16 / 16)
  have h4 := nib_step (n / 16 / 16 / 16)
  have h5 := nib_step (n / 16 / 16 / 16 / 16)
  rw [if_pos (show n / 16 / 16 / 16 / 16 < 16 by omega)] at h5
  split at h1 <;> split at h2 <;> split at h3 <;> split at h4 <;> omega
theorem hdg_facts : ∀ v : Nat, v < 16 → hdg v ≠ 59 ∧ hxv (hdg v) = some (UInt8.ofNat v) ∧ (UInt8.ofNat v).toNat = v ∧ hdg v ≠ 10 ∧ hdg v ≠ 13 := by decide +kernel
theorem csl_nib : ∀ (ds : List Nat) (d z : Nat), (∀ v ∈ ds, v < 16) → d + ds.length ≤ 8 → csl d z (ds.map hdg) = .ok (d + ds.length, ds.foldl (fun z v => z * 16 + v) z)
  | [], d, z, _, _ => rfl
  | v :: r, d, z, hv, hl => by
    obtain ⟨f1, f2, f3, _, _⟩ := hdg_facts v (hv v (List.mem_cons_self ..))
    rw [List.length_cons] at hl
    have ih := csl_nib r (d + 1) (z * 16 + v) (fun u hu => hv u (List.mem_cons_of_mem _ hu)) (by omega)
    rw [List.map_cons]
    unfold csl
    rw [if_neg f1, f2]
    dsimp only
    rw [if_neg (by omega), f3, ih, List.length_cons, List.foldl_cons, show d + 1 + r.length = d + (r.length + 1) by omega]
theorem cSz_hex {n : Nat} (h : n ≤ 65536) : cSz (hexL n) = .ok n := by
  obtain ⟨h1, h2⟩ := nib_len h
  unfold cSz
  rw [hexL_nib, csl_nib _ 0 0 (nib_all n) (by omega), nib_val]
  dsimp only
  rw [if_neg ?_]
  rintro (h3 | h3)
  · omega
  · rw [List.drop_of_length_le (by rw [List.length_map]; omega)] at h3
    exact absurd h3 (by decide)
theorem hexL_facts {n : Nat} (h : n ≤ 65536) : (10 : UInt8) ∉ hexL n ∧ (hexL n).length ≤ 5 := by
  refine ⟨fun hm => ?_, by rw [hexL_nib, List.length_map]; exact (nib_len h).1⟩
  rw [hexL_nib] at hm
  obtain ⟨v, hv, e⟩ := List.mem_map.1 hm
  exact (hdg_facts v (nib_all n v hv)).2.2.2.1 e
/-- the chunks of a body, of s bytes each; with the last one -/
def chf : Nat → Nat → List UInt8 → List UInt8
  | 0, _, _ => []
  | f + 1, s, l => if l = [] then [] else hexL (min s l.length) ++ [13, 10] ++ l.take (min s l.length) ++ [13, 10] ++ chf f s (l.drop (min s l.length))
def chE : List UInt8 := [48, 13, 10, 13, 10]
def chk (s : Nat) (l : List UInt8) : List UInt8 := chf l.length s l ++ chE
theorem chf_nil (f s : Nat) : chf f s [] = [] := by cases f <;> rfl
theorem chf_len {s : Nat} (hs : 1 ≤ s) (hs2 : s ≤ 65536) : ∀ (f : Nat) (l : List UInt8), (chf f s l).length ≤ 10 * l.length
  | 0, l => by simp [chf]
  | f + 1, l => by
    unfold chf
    by_cases h : l = []
    · rw [if_pos h]; simp
    · rw [if_neg h]
      have hp : 1 ≤ l.length := List.length_pos_iff.2 h
      have ih := chf_len hs hs2 f (l.drop (min s l.length))
      have hx := (hexL_facts (n := min s l.length) (by omega)).2
      simp only [List.length_append, List.length_cons, List.length_nil, List.length_take, List.length_drop] at ih ⊢
      omega
theorem cCk_at {n : Nat} {d R : List UInt8} (h : d.length = n) : cCk n (d ++ 13 :: 10 :: R) = .ok (d, R) := by
  subst h
  unfold cCk
  rw [if_neg (by simp), List.drop_left' rfl, List.take_left' rfl]
  rfl
theorem unc_end (f : Nat) (B tl : List UInt8) (h : B.length ≤ 1048576) : unc (f + 1) B (chE ++ tl) = .ok (B, tl) := by
  unfold unc
  have e : chE ++ tl = [48] ++ 13 :: 10 :: (13 :: 10 :: tl) := rfl
  rw [e, cutL_line (most := 256) (s := [48]) (by decide) (by decide)]
  dsimp only
  rw [show cSz [48] = .ok 0 by kernel_rfl]
  dsimp only
  rw [if_neg (by omega)]
  have hd : ([48] ++ 13 :: 10 :: (13 :: 10 :: tl)).drop ([(48 : UInt8)].length + 2) = [] ++ 13 :: 10 :: tl := rfl
  rw [hd, cCk_at (n := 0) rfl]
  dsimp only
  rw [if_pos rfl, List.append_nil]
theorem unc_chf {s : Nat} (hs : 1 ≤ s) (hs2 : s ≤ 65536) (tl : List UInt8) : ∀ (f : Nat) (l B : List UInt8) (F : Nat), l.length ≤ f → l.length < F → B.length + l.length ≤ 1048576 → unc F B (chf f s l ++ (chE ++ tl)) = .ok (B ++ l, tl)
  | 0, l, B, F + 1, hf, _, hB => by
    have h0 : l = [] := List.eq_nil_of_length_eq_zero (by omega)
    subst h0
    rw [chf_nil, List.nil_append, List.append_nil, unc_end F B tl (by simpa using hB)]
  | f + 1, l, B, F + 1, hf, hF, hB => by
    by_cases h : l = []
    · subst h
      rw [chf_nil, List.nil_append, List.append_nil, unc_end F B tl (by simpa using hB)]
    · have hp : 1 ≤ l.length := List.length_pos_iff.2 h
      obtain ⟨n, hn⟩ : ∃ n, min s l.length = n := ⟨_, rfl⟩
      have hn1 : 1 ≤ n ∧ n ≤ 65536 ∧ n ≤ l.length := by omega
      obtain ⟨x1, x2⟩ := hexL_facts hn1.2.1
      have e : chf (f + 1) s l ++ (chE ++ tl) = hexL n ++ 13 :: 10 :: (l.take n ++ 13 :: 10 :: (chf f s (l.drop n) ++ (chE ++ tl))) := by
        show (if l = [] then [] else _) ++ _ = _
        rw [if_neg h, hn]
        simp
      have ih := unc_chf hs hs2 tl f (l.drop n) (B ++ l.take n) F (by rw [List.length_drop]; omega) (by rw [List.length_drop]; omega) (by rw [List.length_append, List.length_take, List.length_drop]; omega)
      unfold unc
      rw [e, cutL_line (most := 256) x1 (by omega)]
      dsimp only
      rw [cSz_hex hn1.2.1]
      dsimp only
      rw [if_neg (by omega)]
      have hd : (hexL n ++ 13 :: 10 :: (l.take n ++ 13 :: 10 :: (chf f s (l.drop n) ++ (chE ++ tl)))).drop ((hexL n).length + 2) = l.take n ++ 13 :: 10 :: (chf f s (l.drop n) ++ (chE ++ tl)) := by
        rw [← List.drop_drop, List.drop_left' rfl]
        rfl
      rw [hd, cCk_at (by rw [List.length_take]; omega)]
      dsimp only
      rw [if_neg (by omega), ih, List.append_assoc, List.take_append_drop]
theorem unk_chk {s : Nat} (hs : 1 ≤ s) (hs2 : s ≤ 65536) {l : List UInt8} (hl : l.length ≤ 1048576) (tl : List UInt8) : unk (chk s l ++ tl) = .ok (l, (chk s l).length) := by
  unfold unk chk
  have hlow : l.length < (chf l.length s l ++ chE ++ tl).length + 1 := by
    have h : ∀ (f : Nat) (l : List UInt8), l.length ≤ f → l.length ≤ (chf f s l).length := by
      intro f
      induction f with
      | zero => intro l h; omega
      | succ f ih =>
        intro l h
        unfold chf
        by_cases h0 : l = []
        · rw [if_pos h0, h0]; simp
        · rw [if_neg h0]
          have hp : 1 ≤ l.length := List.length_pos_iff.2 h0
          have := ih (l.drop (min s l.length)) (by rw [List.length_drop]; omega)
          simp only [List.length_append, List.length_take, List.length_drop] at this ⊢
          omega
    have := h l.length l (Nat.le_refl _)
    simp only [List.length_append]
    omega
  rw [List.append_assoc, unc_chf hs hs2 tl l.length l [] _ (Nat.le_refl _) (by rw [← List.append_assoc]; exact hlow) (by simpa using hl)]
  dsimp only
  rw [List.nil_append]
  congr 2
  simp only [List.length_append]
  omega
theorem unk_pre {l x : List UInt8} (h : unk l = .ok (x, l.length)) {i : Nat} (hi : i < l.length) : unk (l.take i) = .error 2 := by
  have e := List.take_append_drop i l
  have hl : (l.take i).length = i := by rw [List.length_take]; omega
  cases hc : unk (l.take i) with
  | error k =>
    by_cases hk : k = 2
    · rw [hk]
    · have h1 := unk_more (t := l.drop i) (show unk (l.take i) ≠ .error 2 by rw [hc]; intro h2; injection h2 with h2; exact hk h2)
      rw [e, h, hc] at h1
      cases h1
  | ok q =>
    obtain ⟨y, n⟩ := q
    have h1 := unk_more (t := l.drop i) (show unk (l.take i) ≠ .error 2 by rw [hc]; intro h2; cases h2)
    rw [e, h, hc] at h1
    injection h1 with h1
    injection h1 with _ h1
    have := (unk_len hc).1
    omega
/-- the head of a request whose body comes in chunks -/
def chH : List UInt8 := [80, 79, 83, 84, 32, 47, 32, 72, 84, 84, 80, 47, 49, 46, 49, 13, 10, 72, 111, 115, 116, 58, 32, 97, 13, 10, 84, 114, 97, 110, 115, 102, 101, 114, 45, 69, 110, 99, 111, 100, 105, 110, 103, 58, 32, 99, 104, 117, 110, 107, 101, 100, 13, 10, 13, 10]
def chX : Rq := ⟨[80, 79, 83, 84], [47], 1, [⟨⟨#[72, 111, 115, 116]⟩, ⟨#[97]⟩⟩, ⟨⟨#[84, 114, 97, 110, 115, 102, 101, 114, 45, 69, 110, 99, 111, 100, 105, 110, 103]⟩, ⟨#[99, 104, 117, 110, 107, 101, 100]⟩⟩]⟩
theorem ch_hd : cHd 9 chH = .ok (chH.take 15, (chH.drop 17).take 37, 56) := by kernel_rfl
theorem ch_rql : rql (chH.take 15) = .ok ([80, 79, 83, 84], [47], 1) := by kernel_rfl
theorem ch_rdf : rdf ((chH.drop 17).take 37) = .ok chX.fs := by kernel_rfl
theorem ch_ckh : ckh chX.fs 1 = none := by kernel_rfl
theorem ch_frm : frm chX.fs 1 0 = .ok (3, 0) := by kernel_rfl
theorem rqP_chk {C l : List UInt8} (h : unk C = .ok (l, C.length)) : rqP (chH ++ C) = .ok ((chX, l), 56 + C.length) := by
  have hc : cHd 9 (chH ++ C) = cHd 9 chH := cHd_more (by rw [ch_hd]; intro h2; cases h2)
  have hg : rqg (chH.take 15) ((chH.drop 17).take 37) = .ok (chX, 3, 0) := by
    unfold rqg
    rw [ch_rql]
    dsimp only
    rw [ch_rdf]
    dsimp only
    rw [ch_ckh]
    dsimp only
    rw [ch_frm]
    rfl
  unfold rqP msg
  rw [hc, ch_hd]
  dsimp only
  rw [hg]
  dsimp only
  have hd : (chH ++ C).drop 56 = C := List.drop_left' rfl
  rw [hd]
  unfold fcu
  rw [if_pos rfl, h]
end Go.Proofs.YtbgjnghjddcooaaGreatDoor
namespace Go.Proofs.YtbgjnghjddcooaaGreatDoor
open Go.RowKit Go.Shelf TextNum
set_option maxRecDepth 100000 in
set_option maxHeartbeats 1000000 in
theorem AppendUint_hex (a : Option Addr) (q c : Nat) (xs : List UInt8) (N u : Nat) (w : World) (hR : w.ownsRow N 5 1 (.slice a q c) q (cb xs)) (hN : N ≤ w.heap.size) (hq : q ≤ 1099511627) (hu : u ≤ 65536) (hG : GD w) :
    Calls Tryz.prog 114 #[.slice a q c, .int .u64 (u : Int), .int .i64 16] w fun e w' => (∃ a2 c2, e = .returned (.slice a2 (q + (hexL u).length) c2) ∧ Hid (w'.ownsRow N 5 1 (.slice a2 (q + (hexL u).length) c2) (q + (hexL u).length) (cb (xs ++ hexL u)))) ∧ (∀ W, Up W w → W.heap.size ≤ N → Up W w') := by
  have HF := Hid.of (formatBits_hex a q c xs N u w hR hN hq hu hG)
  clear hR hN hG
  go_enter Tryz.func114, Tryz.ntmps114
  go_wp2_with fail
  refine HF.out.mono ?_
  rintro e w2 ⟨⟨a2, c2, rfl, hO⟩, hU⟩
  have HO := Hid.of hO.out
  have HU := Hid.of hU
  clear hO hU HF
  dsimp only
  go_wp2
  go_ret
  exact ⟨⟨a2, c2, rfl, HO⟩, HU.out⟩
set_option maxRecDepth 100000 in
set_option maxHeartbeats 1000000 in
theorem IAppendInt_hex (a : Option Addr) (q c : Nat) (xs : List UInt8) (N u : Nat) (w : World) (hR : w.ownsRow N 5 1 (.slice a q c) q (cb xs)) (hN : N ≤ w.heap.size) (hq : q ≤ 1099511627) (hu : u ≤ 65536) (hG : GD w) :
    Calls Tryz.prog 90 #[.slice a q c, .int .i64 (u : Int), .int .i64 16] w fun e w' => (∃ a2 c2, e = .returned (.slice a2 (q + (hexL u).length) c2) ∧ Hid (w'.ownsRow N 5 1 (.slice a2 (q + (hexL u).length) c2) (q + (hexL u).length) (cb (xs ++ hexL u)))) ∧ (∀ W, Up W w → W.heap.size ≤ N → Up W w') := by
  have HF := Hid.of (AppendUint_hex a q c xs N u w hR hN hq hu hG)
  clear hR hN hG
  go_enter Tryz.func90, Tryz.ntmps90
  go_wp2_with fail
  refine HF.out.mono ?_
  rintro e w2 ⟨⟨a2, c2, rfl, hO⟩, hU⟩
  have HO := Hid.of hO.out
  have HU := Hid.of hU
  clear hO hU HF
  dsimp only
  go_wp2
  go_ret
  exact ⟨⟨a2, c2, rfl, HO⟩, HU.out⟩
set_option maxRecDepth 100000 in
set_option maxHeartbeats 1000000 in
theorem AppendInt_hex (a : Option Addr) (q c : Nat) (xs : List UInt8) (N u : Nat) (w : World) (hR : w.ownsRow N 5 1 (.slice a q c) q (cb xs)) (hN : N ≤ w.heap.size) (hq : q ≤ 1099511627) (hu : u ≤ 65536) (hG : GD w) :
    Calls Tryz.prog 58 #[.slice a q c, .int .i64 (u : Int), .int .i64 16] w fun e w' => (∃ a2 c2, e = .returned (.slice a2 (q + (hexL u).length) c2) ∧ Hid (w'.ownsRow N 5 1 (.slice a2 (q + (hexL u).length) c2) (q + (hexL u).length) (cb (xs ++ hexL u)))) ∧ (∀ W, Up W w → W.heap.size ≤ N → Up W w') := by
  have HF := Hid.of (IAppendInt_hex a q c xs N u w hR hN hq hu hG)
  clear hR hN hG
  go_enter Tryz.func58, Tryz.ntmps58
  go_wp2_with fail
  refine HF.out.mono ?_
  rintro e w2 ⟨⟨a2, c2, rfl, hO⟩, hU⟩
  have HO := Hid.of hO.out
  have HU := Hid.of hU
  clear hO hU HF
  dsimp only
  go_wp2
  go_ret
  exact ⟨⟨a2, c2, rfl, HO⟩, HU.out⟩
theorem row_n {w : World} {N q c : Nat} {a : Option Addr} {xs : List UInt8} (h : w.ownsRow N 5 1 (.slice a q c) q (cb xs)) : xs.length = q := by
  have h1 := h.1
  rw [cb_length] at h1
  omega
theorem row_ow {w : World} {N q c : Nat} {a : Option Addr} {xs : List UInt8} (h : w.ownsRow N 5 1 (.slice a q c) q (cb xs)) : Ow w N (.slice a q c) xs := by
  unfold Ow
  rw [row_n h]
  exact h
theorem ow_row {w : World} {N q c : Nat} {a : Option Addr} {xs : List UInt8} (h : Ow w N (.slice a q c) xs) (hq : xs.length = q) : w.ownsRow N 5 1 (.slice a q c) q (cb xs) := by
  unfold Ow at h
  rw [hq] at h
  exact h
def lenOf : Value → Nat
  | .slice _ n _ => n
  | _ => 0
/-- what chunked answers: the error's place, or the chunks -/
def chR (bd : List UInt8) (sz : Int) : Er (List UInt8) := if sz < 1 ∨ 65536 < sz then .error 0 else if 1048576 < bd.length then .error 1 else .ok (chk sz.toNat bd)
def ChR (ad : Nat → Addr) (w w' : World) (e : Ending) : Er (List UInt8) → Prop
  | .error k => e = .returned (.tuple #[.slice none 0 0, ev (ad k)])
  | .ok l => ∃ a c, e = .returned (.tuple #[.slice a l.length c, .nilIface]) ∧ Hid (Ow w' w.heap.size (.slice a l.length c) l)
set_option maxRecDepth 100000 in
set_option maxHeartbeats 4000000 in
theorem chunked_walk (ad : Nat → Addr) (ab : Option Addr) (nb cb' : Nat) (bd : List UInt8) (size : Int) (w : World) (hB : Sb w (.slice ab nb cb') bd) (hG : GE w ad) (hD : GD w) :
    Calls Tryz.prog 31 #[.slice ab nb cb', .int .i64 size] w fun e w' => ChR ad w w' e (chR bd size) ∧ Up w w' := by
  obtain ⟨hbn, hbc, hbm⟩ := hB.len
  unfold maxLen at hbm
  have HB := Hid.of hB
  have HG := Hid.of hG
  have HGD := Hid.of hD
  have HBn := Hid.of hbn
  clear hB hG hD hbn
  obtain ⟨rv, hrv⟩ : ∃ rv, chR bd size = rv := ⟨_, rfl⟩
  have HR := Hid.of hrv
  rw [hrv]
  clear hrv
  go_enter Tryz.func31, Tryz.ntmps31
  by_cases h1 : size < 1
  · have hgl : w.cell? ⟨2, 0, none⟩ = _ := HG.out.gl 0 (by decide)
    have HE := Hid.of (show rv = .error 0 by rw [← HR.out]; unfold chR; rw [if_pos (.inl h1)])
    go_wp2
    go_quiet (fail)
    go_wp2
    go_ret2
    rw [HE.out]
    exact ⟨rfl, (Up.refl _).drewN _⟩
  · by_cases h2 : 65536 < size
    · have hgl : w.cell? ⟨2, 0, none⟩ = _ := HG.out.gl 0 (by decide)
      have HE := Hid.of (show rv = .error 0 by rw [← HR.out]; unfold chR; rw [if_pos (.inr h2)])
      go_wp2
      go_quiet (fail)
      go_wp2
      go_ret2
      rw [HE.out]
      exact ⟨rfl, (Up.refl _).drewN _⟩
    · by_cases h3 : 1048576 < nb
      · have h3z : (1048576 : Int) < (nb : Int) := by omega
        have hgl : w.cell? ⟨3, 0, none⟩ = _ := HG.out.gl 1 (by decide)
        have HE := Hid.of (show rv = .error 1 by rw [← HR.out]; unfold chR; rw [if_neg (by omega), if_pos (by rw [← HBn.out]; exact h3)])
        go_wp2
        go_quiet (fail)
        go_wp2
        go_ret2
        rw [HE.out]
        exact ⟨rfl, (Up.refl _).drewN _⟩
      · have h3z : ¬ (1048576 : Int) < (nb : Int) := by omega
        obtain ⟨sz, rfl⟩ : ∃ sz : Nat, size = (sz : Int) := ⟨size.toNat, by omega⟩
        have HE := Hid.of (show rv = .ok (chk sz bd) by rw [← HR.out]; unfold chR; rw [if_neg (by omega), if_neg (by rw [← HBn.out]; exact h3), Int.toNat_natCast])
        have hs1 : 1 ≤ sz ∧ sz ≤ 65536 := by omega
        obtain ⟨hs1, hs2⟩ := hs1
        clear HR
        go_wp2
        go_loopw [0, 6] (fun v0 v6 wr => ∃ n0 a0 c0, v0 = .slice a0 n0 c0 ∧ n0 ≤ 1048576 ∧ n0 ≤ c0 ∧ ∃ L a6 c6, v6 = .slice a6 L c6 ∧ L ≤ 10 * (1048576 - n0) ∧ Hid (Up w wr ∧ ∃ rest acc f, Sb w (.slice a0 n0 c0) rest ∧ rest.length ≤ f ∧ wr.ownsRow w.heap.size 5 1 (.slice a6 L c6) L (cb acc) ∧ chf bd.length sz bd = acc ++ chf f sz rest)) (fun v0 _ _ => lenOf v0)
        case atStart => exact ⟨nb, ab, cb', rfl, by omega, by omega, 0, none, 0, rfl, Nat.zero_le _, Hid.of ⟨Up.refl _, bd, [], bd.length, HB.out, Nat.le_refl _, World.ownsRow_nil _ _ _ _, by rw [List.nil_append]⟩⟩
        case round =>
          obtain ⟨n0, a0, c0, rfl, hn0, hnc0, L, a6, c6, rfl, hL6, hX⟩ := hrel
          obtain ⟨hU, rest, acc, f, hS, hf, hO, hE⟩ := hX.out
          clear hX
          have hl0 := hS.len.1
          have HLr := Hid.of hl0
          have HS := Hid.of hS
          have HU := Hid.of hU
          have HO := Hid.of hO
          have HE1 := Hid.of hE
          clear hU hS hO hE
          by_cases h0 : 0 < n0
          · have h0z : (0 : Int) < (n0 : Int) := by omega
            obtain ⟨g, rfl⟩ : ∃ g, f = g + 1 := ⟨f - 1, by omega⟩
            obtain ⟨n, hn⟩ : ∃ n, min sz n0 = n := ⟨_, rfl⟩
            have hn1 : 1 ≤ n ∧ n ≤ 65536 ∧ n ≤ n0 := by omega
            have hmz : min (sz : Int) (n0 : Int) = (n : Int) := by omega
            have HE2 := Hid.of (show chf bd.length sz bd = acc ++ hexL n ++ [13, 10] ++ rest.take n ++ [13, 10] ++ chf g sz (rest.drop n) by
              rw [HE1.out]
              have hne : rest ≠ [] := fun e => by rw [e] at hl0; simp at hl0; omega
              show acc ++ (if rest = [] then [] else _) = _
              rw [if_neg hne, ← hl0, hn]
              simp)
            have hxl := (hexL_facts hn1.2.1).2
            have HMz := Hid.of hmz
            have hf2 : (rest.drop n).length ≤ g := by rw [List.length_drop, ← hl0]; omega
            have HF2 := Hid.of hf2
            clear hl0 hn HE1 hmz hf hf2
            obtain ⟨hn1, hn2, hn3⟩ := hn1
            have HRt := Hid.of (show Sb w (.slice a0 n c0) (rest.take n) from by
              have h1 := HS.out
              rw [HLr.out] at h1
              exact h1.take n (by rw [← HLr.out]; exact hn3))
            have HRd := Hid.of (show Sb w (.slice (sv a0 c0 n) (n0 - n) (c0 - n)) (rest.drop n) from by
              have h1 := HS.out.sub n n0 hn3 (by rw [HLr.out]; exact Nat.le_refl _)
              rw [List.take_of_length_le (by rw [HLr.out]; exact Nat.le_refl _)] at h1
              exact h1)
            have HLt := Hid.of (show (rest.take n).length = n by rw [List.length_take, ← HLr.out]; omega)
            go_wp2_with fail
            rw [HMz.out]
            refine (AppendInt_hex a6 L c6 acc w.heap.size n wr HO.out HU.out.size (by omega) hn2 (HU.out.cell HGD.out)).mono ?_
            rintro e w2 ⟨⟨a2, c2, rfl, hO2⟩, hu2⟩
            have HO2 := Hid.of hO2.out
            have HU2 := Hid.of (hu2 w HU.out (Nat.le_refl _))
            clear hO2 hu2 HO
            dsimp only
            generalize (hexL n).length = xl at HO2 hxl ⊢
            obtain ⟨A1, hA1⟩ : ∃ A1, acc ++ hexL n = A1 := ⟨_, rfl⟩
            rw [hA1] at HO2 HE2
            clear hA1
            go_wp2_with (with_reducible show wpList _ _ _ ({ dst := _, op := Op.call { callee := Callee.builtin Builtin.append, args := _, argTypes := _ }, type := _, pos := _, after := _, guard := _ } :: _) _ _; refine Shut.out ?_)
            show wpList _ _ _ _ _ _
            refine wpList_appStr rfl _ _ rfl a2 c2 A1 ⟨#[13, 10]⟩ [13, 10] rfl rfl rfl (row_n HO2.out) (row_ow HO2.out) HU2.out.size (by simp only [List.length_cons, List.length_nil]; omega) ?_
            intro a3 c3 w3 o3 u3
            rw [show ([13, 10] : List UInt8).length = 2 from rfl] at o3 ⊢
            have HO3 := Hid.of (ow_row o3 (by rw [List.length_append, row_n HO2.out]; rfl))
            have HU3 := Hid.of (u3 w HU2.out (Nat.le_refl _))
            clear o3 u3 HO2
            obtain ⟨A2, hA2⟩ : ∃ A2, A1 ++ [13, 10] = A2 := ⟨_, rfl⟩
            rw [hA2] at HO3 HE2
            clear hA2
            simp only [Act.put, List.setIfInBounds_toArray, List.set_cons_zero, List.set_cons_succ]
            go_wp2_with (with_reducible show wpList _ _ _ ({ dst := _, op := Op.slice 22 _ _ _ _, type := _, pos := _, after := _, guard := _ } :: _) _ _; refine Shut.out ?_)
            show wpList _ _ _ _ _ _
            refine wpList_val7 (.slice a0 n c0) rfl (exec_subhi (by omega) rfl rfl rfl) ?_
            simp only [Act.put, List.setIfInBounds_toArray, List.set_cons_zero, List.set_cons_succ]
            go_wp2_with (with_reducible show wpList _ _ _ ({ dst := _, op := Op.call { callee := Callee.builtin Builtin.append, args := _, argTypes := _ }, type := _, pos := _, after := _, guard := _ } :: _) _ _; refine Shut.out ?_)
            show wpList _ _ _ _ _ _
            refine wpList_appSb3 (N := w.heap.size) rfl _ _ rfl a3 c3 A2 _ (rest.take n) rfl rfl (HRt.out.up HU3.out) HO3.out HU3.out.size (by rw [HLt.out]; omega) ?_
            intro a4 c4 w4 o4 u4 _ _
            rw [HLt.out] at o4 ⊢
            have HO4 := Hid.of o4
            have HU4 := Hid.of (u4 w HU3.out (Nat.le_refl _))
            clear o4 u4 HO3
            obtain ⟨A3, hA3⟩ : ∃ A3, A2 ++ rest.take n = A3 := ⟨_, rfl⟩
            rw [hA3] at HO4 HE2
            clear hA3
            simp only [Act.put, List.setIfInBounds_toArray, List.set_cons_zero, List.set_cons_succ]
            go_wp2_with (with_reducible show wpList _ _ _ ({ dst := _, op := Op.call { callee := Callee.builtin Builtin.append, args := _, argTypes := _ }, type := _, pos := _, after := _, guard := _ } :: _) _ _; refine Shut.out ?_)
            show wpList _ _ _ _ _ _
            refine wpList_appStr rfl _ _ rfl a4 c4 A3 ⟨#[13, 10]⟩ [13, 10] rfl rfl rfl (row_n HO4.out) (row_ow HO4.out) HU4.out.size (by simp only [List.length_cons, List.length_nil]; omega) ?_
            intro a5 c5 w5 o5 u5
            rw [show ([13, 10] : List UInt8).length = 2 from rfl] at o5 ⊢
            have HO5 := Hid.of (ow_row o5 (by rw [List.length_append, row_n HO4.out]; rfl))
            have HU5 := Hid.of (u5 w HU4.out (Nat.le_refl _))
            clear o5 u5 HO4
            simp only [Act.put, List.setIfInBounds_toArray, List.set_cons_zero, List.set_cons_succ]
            go_wp2_with (with_reducible show wpList _ _ _ ({ dst := _, op := Op.slice 22 _ _ _ _, type := _, pos := _, after := _, guard := _ } :: _) _ _; refine Shut.out ?_)
            show wpList _ _ _ _ _ _
            refine wpList_val7 (.slice (sv a0 c0 n) (n0 - n) (c0 - n)) rfl (exec_sublo (lo := n) (by omega) rfl rfl rfl) ?_
            simp only [Act.put, List.setIfInBounds_toArray, List.set_cons_zero, List.set_cons_succ]
            have hL9 : L + xl + 2 + n + 2 ≤ 10 * (1048576 - (n0 - n)) := by omega
            go_wp2
            go_roundw
            all_goals first
              | exact ⟨n0 - n, sv a0 c0 n, c0 - n, rfl, by omega, by omega, L + xl + 2 + n + 2, a5, c5, rfl, hL9, Hid.of ⟨HU5.out, rest.drop n, _, g, HRd.out, HF2.out, HO5.out, HE2.out⟩⟩
              | (simp [lenOf]; omega)
          · have h0z : ¬ (0 : Int) < (n0 : Int) := by omega
            have hr0 : rest = [] := List.eq_nil_of_length_eq_zero (by omega)
            have HA := Hid.of (show acc ++ chE = chk sz bd by unfold chk; rw [HE1.out, hr0, chf_nil, List.append_nil])
            clear hr0
            go_wp2_with (with_reducible show wpList _ _ _ ({ dst := _, op := Op.call { callee := Callee.builtin Builtin.append, args := _, argTypes := _ }, type := _, pos := _, after := _, guard := _ } :: _) _ _; refine Shut.out ?_)
            show wpList _ _ _ _ _ _
            refine wpList_appStr rfl _ _ rfl a6 c6 acc ⟨#[48, 13, 10, 13, 10]⟩ chE rfl rfl rfl (row_n HO.out) (row_ow HO.out) HU.out.size (by simp only [chE, List.length_cons, List.length_nil]; omega) ?_
            intro a5 c5 w5 o5 u5
            have hla : L + chE.length = (chk sz bd).length := by rw [← HA.out, List.length_append, row_n HO.out]
            rw [hla, HA.out] at o5
            rw [hla]
            have HO5 := Hid.of o5
            have HU5 := Hid.of (u5 w HU.out (Nat.le_refl _))
            clear o5 u5 hla
            simp only [Act.put, List.setIfInBounds_toArray, List.set_cons_zero, List.set_cons_succ]
            go_wp2
            go_ret2
            rw [HE.out]
            exact ⟨⟨a5, c5, rfl, HO5⟩, HU5.out⟩
end Go.Proofs.YtbgjnghjddcooaaGreatDoor
namespace Go.Proofs.YtbgjnghjddcooaaGreatDoor
open Go.RowKit Go.Shelf TextNum
/-- a list of one's own whose block may bear a mark behind its room (a text made to bytes) -/
def OwnM (w : World) (B : Nat) (v : Value) (l : List UInt8) : Prop := ∃ g cap cur fr, v = .slice (some ⟨g, 0, none⟩) l.length cap ∧ B ≤ g ∧ w.heap[g]? = some (.cells cur 5 fr) ∧ (fr.2 = 0 ∨ cap ≤ fr.1) ∧ l.length ≤ cap ∧ cap ≤ maxLen ∧ cur.size = cap ∧ cur.toList.take l.length = cb l
theorem OwnM.up {w w' : World} {B : Nat} {v : Value} {l : List UInt8} (h : OwnM w B v l) (k : Up w w') : OwnM w' B v l := by
  obtain ⟨g, cap, cur, fr, rfl, hB, hg, r⟩ := h
  refine ⟨g, cap, cur, fr, rfl, hB, ?_, r⟩
  rw [k.block g (Array.getElem?_eq_some_iff.1 hg).1]; exact hg
theorem OwnM.base {w : World} {B B' : Nat} {v : Value} {l : List UInt8} (h : OwnM w B v l) (hB : B' ≤ B) : OwnM w B' v l := by
  obtain ⟨g, cap, cur, fr, e, hb, r⟩ := h
  exact ⟨g, cap, cur, fr, e, Nat.le_trans hB hb, r⟩
theorem OwnM.cells {w : World} {B : Nat} {g cap : Nat} {l : List UInt8} (h : OwnM w B (.slice (some ⟨g, 0, none⟩) l.length cap) l) : g < w.heap.size ∧ ∀ j u, (cb l)[j]? = some u → w.cell? ⟨g, j, none⟩ = some u := by
  obtain ⟨g', cap', cur, fr, e, hB, hg, _, _, _, _, ht⟩ := h
  injection e with e1 _ _
  injection e1 with e1
  injection e1 with e1 _ _
  subst e1
  refine ⟨(Array.getElem?_eq_some_iff.1 hg).1, fun j u hu => ?_⟩
  rw [cell_of_row w g j cur _ fr hg]
  rw [← ht, List.getElem?_take] at hu
  split at hu
  · simpa using hu
  · cases hu
theorem run_storeCells_mk (P : Program) (g o : Nat) (t : TypeId) (fz : Nat × Nat) : ∀ (vs : List Value) (i : Nat) (cur : Array Value) (w : World), w.heap[g]? = some (.cells cur t fz) → (fz.2 = 0 ∨ cur.size ≤ fz.1) → o + i + vs.length ≤ cur.size → (∀ v ∈ vs, v.oneCell' = true) →
    (storeCells ⟨g, o, none⟩ vs i).run P w = .ok () (w.setRow g (cur.toList.take (o + i) ++ vs ++ cur.toList.drop (o + i + vs.length)).toArray)
  | [], i, cur, w, hg, _, _, _ => by
    simp only [storeCells, List.append_nil, List.length_nil, Nat.add_zero, List.take_append_drop, Array.toArray_toList]
    rw [setRow_self w g cur t fz hg]
    rfl
  | v :: rest, i, cur, w, hg, hfz, hl, h1 => by
    have hi : o + i < cur.size := by simp at hl; omega
    have hadd : (⟨g, o, none⟩ : Addr).add i = ⟨g, o + i, none⟩ := by unfold Addr.add; split <;> simp_all
    have hcell : w.cell? ⟨g, o + i, none⟩ = some cur[o + i] := by simp [World.cell?, hg, hi]
    have hfro : w.frozen? ⟨g, o + i, none⟩ = false := by
      obtain ⟨lo, hi'⟩ := fz
      simp only [World.frozen?, hg, Bool.and_eq_false_iff, decide_eq_false_iff_not]
      simp only at hfz
      omega
    have hst : (store ((⟨g, o, none⟩ : Addr).add i) v).run P w = .ok () (w.setRow g (cur.setIfInBounds (o + i) v)) := by
      rw [hadd, run_store P w _ v _ (h1 v (by simp)), hcell]
      simp [hfro, setCell_eq_setRow w g (o + i) cur t fz v hg]
    have ih := run_storeCells_mk P g o t fz rest (i + 1) (cur.setIfInBounds (o + i) v) (w.setRow g (cur.setIfInBounds (o + i) v)) (setRow_heap w g cur _ t _ hg) (by simpa using hfz) (by simp at hl ⊢; omega) (fun x hx => h1 x (by simp [hx]))
    simp only [storeCells, Sem.run_bind, hst, Result.andThen_ok, ih, setRow_setRow]
    congr 3
    have e := list_seg_step cur.toList (o + i) v rest (by simp at hl ⊢; omega)
    simpa [Array.toList_setIfInBounds, Nat.add_assoc] using e
theorem run_app_slM {w : World} {B : Nat} {v : Value} {l : List UInt8} (sa : Addr) (sn sc : Nat) (m : List UInt8) (ty : TypeId) (hm : m.length = sn) (hcell : ∀ j u, (cb m)[j]? = some u → w.cell? (sa.add j) = some u) (hown : OwnM w B v l) (hn : l.length + m.length ≤ 140737488355328) (hB : B ≤ w.heap.size) :
    ∃ v' w', (Builtin.append_ #[22, 22] ty #[v, .slice (some sa) sn sc]).run Tryz.prog w = .ok v' w' ∧ OwnM w' B v' (l ++ m) ∧ Below B w w' := by
  subst hm
  obtain ⟨i, hi, hz, hsize, hby⟩ := info_parts Tryz.infoU8
  have ht : Tryz.prog.underlying 22 = some (.slice 5) := Tryz.underlying22
  have hs : Src Tryz.prog i.size 22 (.slice (some sa) m.length sc) m.length (cb m) w := Src.ofSlice w ht sa m.length sc (cb m) (by rw [cb_length, hsize, Nat.mul_one]) hcell (cb_one m)
  have hlen : (cb l ++ cb m).length = l.length + m.length := by simp [cb]
  have h0 := hown
  obtain ⟨g, cap, cur, fr, rfl, hbg, hg, hfr, hnc, hcm, hcs, htake⟩ := hown
  by_cases hroom : l.length + m.length ≤ cap
  · have hfit : l.length + (cb m).length ≤ cur.size := by rw [hcs, cb_length]; omega
    have hst := run_storeCells_mk Tryz.prog g (l.length * i.size) 5 fr (cb m) 0 cur w hg (by rw [hcs]; exact hfr) (by rw [hsize]; simpa using hfit) (cb_one m)
    simp only [Nat.add_zero] at hst
    have hr : (Builtin.append_ #[22, 22] ty #[.slice (some ⟨g, 0, none⟩) l.length cap, .slice (some sa) m.length sc]).run Tryz.prog w =
        .ok (.slice (some ⟨g, 0, none⟩) (l.length + m.length) cap) (w.setRow g (cur.toList.take (l.length * i.size) ++ cb m ++ cur.toList.drop (l.length * i.size + (cb m).length)).toArray) := by
      simp [Builtin.append_, run_underlying ht, sizeOf, typeInfo, hi, hs.len, hroom, hs.cells, Addr.add_lit, hst]
    refine ⟨_, _, hr, ⟨g, cap, _, fr, by rw [List.length_append], hbg, setRow_heap w g cur _ 5 _ hg, hfr, by rw [List.length_append]; exact hroom, hcm, ?_, ?_⟩, ⟨rfl, rfl, rfl, by simp, fun k hk => setRow_other w g k _ (by omega)⟩⟩
    · simp only [List.size_toArray, List.length_append, List.length_take, List.length_drop, Array.length_toList, cb_length, hsize]
      omega
    · rw [hsize, Nat.mul_one, htake, cb_append, List.length_append, ← hlen]
      exact List.take_left
  · obtain ⟨_, holds⟩ := h0.cells
    have hold := run_firstCells_some (P := Tryz.prog) w.drew i.size l.length ⟨g, 0, none⟩ l.length cap (cb l) (by rw [hsize, cb_length, Nat.mul_one]) (fun j u hj => by rw [Addr.add_lit, Nat.zero_add]; exact (World.cell?_drew _ _).trans (holds j u hj))
    have hr := run_append_grow_src (P := Tryz.prog) w 22 22 ty 5 i _ ht hi hz (some ⟨g, 0, none⟩) l.length cap (cb l) hold _ m.length (cb m) hs (by omega) (by omega) (growslice_fits (by omega) (by rw [hby]; omega))
    have hge := grownCap_ge w (l.length + m.length) cap 5
    have hcm2 : grownCap w (l.length + m.length) cap 5 ≤ maxLen := grownCap_le_maxLen w _ cap _ (by unfold maxLen; omega)
    refine ⟨_, _, hr, ⟨w.heap.size, _, _, (0, 0), by rw [List.length_append], hB, heap_alloc_new w.drew _, .inl rfl, by rw [List.length_append]; exact hge, hcm2, ?_, ?_⟩, Below.alloc (Below.drew (Below.refl B w)) hB _⟩
    · simp only [Array.size_append, List.size_toArray, size_zeroCells, hlen]
      simp [Value.cells]
      omega
    · simp only [Array.toList_append, cb_append, List.length_append]
      rw [← hlen]
      exact List.take_left
/-- a text made to bytes -/
theorem conv_str (w : World) (t : ByteArray) (ht : t.size ≤ 140737488355328) : ∃ v w', (convert 9 22 (.string t)).run Tryz.prog w = .ok v w' ∧ OwnM w' w.heap.size v t.data.toList ∧ Up w w' := by
  have hge := grownCap_ge w t.size 0 5
  have hcm : grownCap w t.size 0 5 ≤ maxLen := grownCap_le_maxLen w _ 0 _ (by unfold maxLen; omega)
  have hc : (Go.Lib.bytesCells w 5 t).size = grownCap w t.size 0 5 := by
    simp only [Go.Lib.bytesCells, Array.size_append, Array.size_map, Array.size_replicate]
    have : t.data.size = t.size := rfl
    omega
  refine ⟨_, _, Go.Lib.run_convert_string_bytes (P := Tryz.prog) w 9 22 5 t Tryz.underlying9 Tryz.underlying22 Tryz.underlying5, ⟨w.heap.size, _, Go.Lib.bytesCells w 5 t, _, by rw [← Go.Lib.size_eq], Nat.le_refl _, Go.Lib.bytesWorld_at_new w 5 t, .inr (by rw [hc]; exact Nat.le_refl _), by rw [← Go.Lib.size_eq]; exact hge, hcm, hc, ?_⟩, ⟨rfl, rfl, rfl, by rw [Go.Lib.bytesWorld_size]; omega, fun j hj => Go.Lib.bytesWorld_at_old w 5 t j hj⟩⟩
  simp only [Go.Lib.bytesCells, Array.toList_append, Array.toList_map]
  have : (t.data.toList.map fun b => Value.int .u8 (b.toNat : Int)) = cb t.data.toList := rfl
  rw [this, show t.data.toList.length = (cb t.data.toList).length by rw [cb_length]]
  exact List.take_left
theorem wpList_conv {ops : Array Oper} {rest : List Oper} {o : Oper} {a : Act} {w : World} {Q : Exit → Act → World → Prop} (hgd : o.guard = none) (s : Operand)
    (ho : o.op = .convert 9 22 s) (t : ByteArray) (ht : t.size ≤ 140737488355328) (hs : a.eval s = .string t)
    (h : ∀ v' w', OwnM w' w.heap.size v' t.data.toList → Up w w' → wpList Tryz.prog ops Q rest (a.put o.dst v') w') : wpList Tryz.prog ops Q (o :: rest) a w := by
  refine wpList_plain hgd fun K hK => ?_
  obtain ⟨v', w', hr, h2, h3⟩ := conv_str w t ht
  unfold Oper.wp execOp
  simp only [ho, Sem.run_bind, Sem.run_pure, Result.andThen_ok, hs, hr]
  exact hK _ _ (h v' w' h2 h3)
/-- bytes that are read are appended to a text made to bytes -/
theorem wpList_appSbM {ops : Array Oper} {rest : List Oper} {o : Oper} {a : Act} {w : World} {Q : Exit → Act → World → Prop} (hgd : o.guard = none) (s x : Operand)
    (ho : o.op = .call { callee := .builtin .append, args := #[s, x], argTypes := #[22, 22] }) (B : Nat) (v vy : Value) (l m : List UInt8) (hs : a.eval s = v) (hown : OwnM w B v l)
    (hx : a.eval x = vy) (hSb : Sb w vy m) (hm0 : m ≠ []) (hn : l.length + m.length ≤ 140737488355328) (hB : B ≤ w.heap.size)
    (h : ∀ a2 c2 w', OwnM w' B (.slice a2 (l.length + m.length) c2) (l ++ m) → Below B w w' → wpList Tryz.prog ops Q rest (a.put o.dst (.slice a2 (l.length + m.length) c2)) w') : wpList Tryz.prog ops Q (o :: rest) a w := by
  obtain ⟨ay, cy, rfl, k1, k2, k3, k4⟩ := hSb
  cases ay with
  | none => exact absurd (k3 rfl).1 hm0
  | some ad =>
    refine wpList_plain hgd fun K hK => ?_
    obtain ⟨v', w', hr, h2, h3⟩ := run_app_slM ad m.length cy m o.type rfl (k4 ad rfl).2 hown hn hB
    obtain ⟨a2, c2, rfl⟩ : ∃ a2 c2, v' = .slice a2 (l.length + m.length) c2 := by
      obtain ⟨g, cap, cur, fr, e, _⟩ := h2
      exact ⟨_, _, by rw [e, List.length_append]⟩
    unfold Oper.wp execOp
    simp only [ho, resolve, invoke, builtin, Sem.run_bind, Sem.run_pure, Result.andThen_ok, List.map_toArray, List.map_cons, List.map_nil, hs, hx, hr]
    exact hK _ _ (h a2 c2 w' h2 h3)
theorem OwnM.sb {w : World} {B : Nat} {v : Value} {l : List UInt8} (h : OwnM w B v l) : Sb w v l := by
  have h0 := h
  obtain ⟨g, cap, cur, fr, rfl, hB, hg, _, hc, hm, _⟩ := h
  obtain ⟨h1, h2⟩ := h0.cells
  exact ⟨_, cap, rfl, hc, hm, (fun e => by cases e), fun ad e => by
    obtain rfl := Option.some.inj e
    exact ⟨fun _ => rfl, fun j u hj => by rw [Addr.add_lit, Nat.zero_add]; exact h2 j u hj⟩⟩
theorem below_up {w w' : World} {B : Nat} (h : Below B w w') {W : World} (hu : Up W w) (hB : W.heap.size ≤ B) : Up W w' :=
  ⟨h.os.trans hu.os, h.tape.trans hu.tape, h.output.trans hu.output, Nat.le_trans hu.size h.size, fun j hj => (h.block j (by omega)).trans (hu.block j hj)⟩
end Go.Proofs.YtbgjnghjddcooaaGreatDoor
namespace Go.Proofs.YtbgjnghjddcooaaGreatDoor
open Go.RowKit Go.Shelf TextNum
def ChQ (w w' : World) (e : Ending) : Er (List UInt8) → Prop
  | .error k => e = .returned (.tuple #[.slice none 0 0, .int .i64 (nums k)])
  | .ok l => ∃ a c, e = .returned (.tuple #[.slice a l.length c, .int .i64 0]) ∧ Hid (Ow w' w.heap.size (.slice a l.length c) l)
set_option maxRecDepth 100000 in
set_option maxHeartbeats 2000000 in
theorem Chunked_walk (ad : Nat → Addr) (ab : Option Addr) (nb cb' : Nat) (bd : List UInt8) (size : Int) (w : World) (hB : Sb w (.slice ab nb cb') bd) (hG : GE w ad) (hD : GD w) :
    Calls Tryz.prog 17 #[.slice ab nb cb', .int .i64 size] w fun e w' => ChQ w w' e (chR bd size) ∧ Up w w' := by
  have HC := Hid.of (chunked_walk ad ab nb cb' bd size w hB hG hD)
  have HG := Hid.of hG
  have hk : ∀ k, chR bd size = .error k → k < 12 := by
    intro k h
    unfold chR at h
    split at h
    · injection h with h; omega
    · split at h
      · injection h with h; omega
      · cases h
  clear hB hG hD
  go_enter Tryz.func17, Tryz.ntmps17
  go_wp2_with fail
  refine HC.out.mono ?_
  rintro e w2 ⟨hR, hU⟩
  have HU := Hid.of hU
  clear hU HC
  cases hq : chR bd size with
  | error k =>
    rw [hq] at hR
    obtain rfl := hR
    have hk2 := hk k hq
    have HQ := Hid.of hq
    clear hk hq
    dsimp only
    go_wp2_with fail
    refine (numberOf_err ad k hk2 w2 (HG.out.up HU.out)).mono ?_
    rintro e w3 ⟨rfl, h9⟩
    have HU3 := Hid.of (HU.out.trans h9)
    clear h9
    dsimp only
    go_wp2
    go_ret2
    rw [HQ.out]
    exact ⟨rfl, HU3.out⟩
  | ok l =>
    rw [hq] at hR
    obtain ⟨a, c, rfl, hO⟩ := hR
    have HO := Hid.of hO.out
    have HQ := Hid.of hq
    clear hk hq hO
    dsimp only
    go_wp2_with fail
    refine (numberOf_nil ad w2 (HG.out.up HU.out)).mono ?_
    rintro e w3 ⟨rfl, h9⟩
    have HU3 := Hid.of (HU.out.trans h9)
    have HO3 := Hid.of (ow_up HO.out h9)
    clear h9
    dsimp only
    go_wp2
    go_ret2
    rw [HQ.out]
    exact ⟨⟨a, c, rfl, HO3⟩, HU3.out⟩
def UnQ (w w' : World) (e : Ending) : Er (List UInt8 × Nat) → Prop
  | .error k => e = .returned (.tuple #[.slice none 0 0, .int .i64 0, .int .i64 (numK k)])
  | .ok (b, k) => ∃ a c, e = .returned (.tuple #[.slice a b.length c, .int .i64 (k : Int), .int .i64 0]) ∧ Hid (Ow w' w.heap.size (.slice a b.length c) b)
theorem unk_lt {l : List UInt8} {k : Nat} (h : unk l = .error k) : k < 24 := by
  unfold unk at h
  cases hc : unc (l.length + 1) [] l with
  | error e =>
    rw [hc] at h
    injection h with h
    have := unc_er _ _ _ _ hc
    omega
  | ok q =>
    rw [hc] at h
    cases h
set_option maxRecDepth 100000 in
set_option maxHeartbeats 2000000 in
theorem Unchunk_walk (ad : Nat → Addr) {a : Option Addr} {n c : Nat} {ds : List UInt8} (hn40 : n ≤ 1099511627776) (w : World) (hS : Sb w (.slice a n c) ds) (hG : GE w ad) : Calls Tryz.prog 18 #[.slice a n c] w fun e w' => UnQ w w' e (unk ds) ∧ Up w w' := by
  have HC := Hid.of (unchunk_walk ad hn40 w hS hG)
  have HG := Hid.of hG
  clear hS hG
  go_enter Tryz.func18, Tryz.ntmps18
  go_wp2_with fail
  refine HC.out.mono ?_
  rintro e w2 ⟨hR, hU⟩
  have HU := Hid.of hU
  clear hU HC
  cases hq : unk ds with
  | error k =>
    rw [hq] at hR
    obtain rfl := hR
    have hk2 := unk_lt hq
    have HQ := Hid.of hq
    clear hq
    dsimp only
    go_wp2_with fail
    refine (numberOf_any ad k hk2 w2 (HG.out.up HU.out)).mono ?_
    rintro e w3 ⟨rfl, h9⟩
    have HU3 := Hid.of (HU.out.trans h9)
    clear h9
    dsimp only
    go_wp2
    go_ret3
    rw [HQ.out]
    exact ⟨rfl, HU3.out⟩
  | ok q =>
    obtain ⟨b, k⟩ := q
    rw [hq] at hR
    obtain ⟨v, rfl, hO⟩ := hR
    obtain ⟨a2, c2, rfl⟩ := row_len hO.out
    have HO := Hid.of hO.out
    have HQ := Hid.of hq
    clear hq hO
    dsimp only
    go_wp2_with fail
    refine (numberOf_nil ad w2 (HG.out.up HU.out)).mono ?_
    rintro e w3 ⟨rfl, h9⟩
    have HU3 := Hid.of (HU.out.trans h9)
    have HO3 := Hid.of (ow_up HO.out h9)
    clear h9
    dsimp only
    go_wp2
    go_ret3
    rw [HQ.out]
    exact ⟨⟨a2, c2, rfl, HO3⟩, HU3.out⟩
end Go.Proofs.YtbgjnghjddcooaaGreatDoor
namespace Go.Proofs.YtbgjnghjddcooaaGreatDoor
open Go.RowKit Go.Shelf TextNum
theorem chX_V (a : Option Addr) (c : Nat) (v : Value) : rqV chX a c v = .agg #[.string ⟨#[80, 79, 83, 84]⟩, .string ⟨#[47]⟩, .int .i64 1, .slice a 2 c, v, .bool (cls (chX.mi == 0) chX.fs)] := rfl
set_option maxRecDepth 100000 in
set_option maxHeartbeats 8000000 in
theorem chunks_walk (ad : Nat → Addr) (ab : Option Addr) (nb cb' : Nat) (bd : List UInt8) (size : Int) (ax : Option Addr) (nx cx : Nat) (tl : List UInt8) (w : World) (hB : Sb w (.slice ab nb cb') bd) (hT : Sb w (.slice ax nx cx) tl) (hW : GW w ad) (hD : GD w) (hbl : bd.length ≤ 1048576) (htl : tl.length ≤ 1048576) :
    Calls Tryz.prog 4 #[.slice ab nb cb', .int .i64 size, .slice ax nx cx] w fun e w' => e = .returned (.bool true) ∧ Up w w' := by
  obtain ⟨hbn, hbc, hbm⟩ := hB.len
  unfold maxLen at hbm
  have hnb : nb ≤ 1048576 := by omega
  have HBn := Hid.of hbn
  have HB := Hid.of hB
  have HT := Hid.of hT
  have HW := Hid.of hW
  have HD := Hid.of hD
  clear hB hT hW hD hbn
  have hnz : ¬ (1048576 : Int) < (nb : Int) := by omega
  go_enter Tryz.func4, Tryz.ntmps4
  go_wp2_with fail
  refine (known_walk ad w HW.out).mono ?_
  rintro e w2 ⟨rfl, h9⟩
  have HU2 := Hid.of h9
  clear h9
  dsimp only
  go_wp2_with fail
  refine (Chunked_walk ad ab nb cb' bd size w2 (HB.out.up HU2.out) (HW.out.up HU2.out).ge (HU2.out.cell HD.out)).mono ?_
  rintro e w3 ⟨hR, h9⟩
  have HU3 := Hid.of (HU2.out.trans h9)
  clear h9
  by_cases hs : size < 1 ∨ 65536 < size
  · have hq : chR bd size = .error 0 := by unfold chR; rw [if_pos hs]
    rw [hq] at hR
    obtain rfl := hR
    rw [show nums 0 = 1 from rfl]
    clear hq
    dsimp only
    by_cases h1 : size < 1
    · go_wp2
      go_ret
      exact ⟨rfl, HU3.out⟩
    · have h2 : 65536 < size := by omega
      go_wp2
      go_ret
      exact ⟨rfl, HU3.out⟩
  · obtain ⟨sz, rfl⟩ : ∃ sz : Nat, size = (sz : Int) := ⟨size.toNat, by omega⟩
    have hs1 : 1 ≤ sz := by omega
    have hs2 : sz ≤ 65536 := by omega
    have hz1 : ¬ (sz : Int) < 1 := by omega
    have hz2 : ¬ (65536 : Int) < (sz : Int) := by omega
    have hq : chR bd (sz : Int) = .ok (chk sz bd) := by unfold chR; rw [if_neg hs, if_neg (by omega), Int.toNat_natCast]
    rw [hq] at hR
    obtain ⟨a8, c8, rfl, hO8⟩ := hR
    have hkl : (chk sz bd).length ≤ 10485765 := by
      unfold chk
      rw [List.length_append]
      have h1 := chf_len hs1 hs2 bd.length bd
      have h2 : chE.length = 5 := rfl
      omega
    have hk5 : 5 ≤ (chk sz bd).length := by
      unfold chk
      rw [List.length_append]
      have h2 : chE.length = 5 := rfl
      omega
    have HK := Hid.of (fun tl => unk_chk hs1 hs2 hbl tl)
    obtain ⟨C, hC⟩ : ∃ C, chk sz bd = C := ⟨_, rfl⟩
    rw [hC] at HK hO8 hkl hk5 ⊢
    clear hq hs hC
    have HK0 := Hid.of (show unk C = .ok (bd, C.length) by have h := HK.out []; rw [List.append_nil] at h; exact h)
    have HKp := Hid.of (fun i (hi : i < C.length) => unk_pre HK0.out hi)
    have HKt := Hid.of (HK.out tl)
    have HKr := Hid.of (rqP_chk HK0.out)
    have HS8 := Hid.of (Ow.sb hO8.out)
    have HSp := Hid.of (fun i (hi : i ≤ C.length) => (Ow.sb hO8.out).take i hi)
    have hcap := HS8.out.len.2.1
    clear HK hO8
    obtain ⟨L, hL⟩ : ∃ L, C.length = L := ⟨_, rfl⟩
    have HL := Hid.of hL
    rw [hL] at HK0 HKp HKt HKr HS8 HSp hkl hk5 hcap ⊢
    clear hL
    dsimp only
    go_wp2_with fail
    refine (padded_walk (.slice a8 L c8) C 0 (by rw [HL.out]; omega) w3 HS8.out).mono ?_
    rintro e w4 ⟨v4, rfl, hO4, h9⟩
    have hpd : pdd C 0 = C := by unfold pdd; simp
    rw [hpd] at hO4
    obtain ⟨a4, c4, rfl⟩ := row_len hO4
    unfold Ow at hO4
    rw [HL.out] at hO4 ⊢
    have HO4 := Hid.of hO4
    have Hx4 := Hid.of h9
    clear h9 hO4 hpd
    dsimp only
    go_wp2_with (with_reducible show wpList _ _ _ ({ dst := _, op := Op.call { callee := Callee.builtin Builtin.append, args := _, argTypes := _ }, type := _, pos := _, after := _, guard := _ } :: _) _ _; refine Shut.out ?_)
    show wpList _ _ _ _ _ _
    refine wpList_appSb2 (N := w3.heap.size) rfl _ _ rfl a4 c4 C _ tl rfl rfl (HT.out.up (HU3.out.trans Hx4.out)) HO4.out Hx4.out.size (by omega) ?_
    intro a5 c5 w5 o5 u5 _
    have Hx5 := Hid.of (u5 w3 Hx4.out (Nat.le_refl _))
    have HS5 := Hid.of (show Sb w5 (.slice a5 (L + tl.length) c5) (C ++ tl) from Ow.sb (B := w3.heap.size) (by
      unfold Ow
      rw [List.length_append, HL.out]
      exact o5))
    clear o5 u5 HO4 Hx4
    simp only [Act.put, List.setIfInBounds_toArray, List.set_cons_zero, List.set_cons_succ]
    go_wp2_with fail
    refine (Unchunk_walk ad (by omega) w5 HS5.out (HW.out.up (HU3.out.trans Hx5.out)).ge).mono ?_
    rintro e w6 ⟨hR6, h9⟩
    rw [HKt.out] at hR6
    obtain ⟨a6, c6, rfl, hO6⟩ := hR6
    have Hx6 := Hid.of (Hx5.out.trans h9)
    have HU6 := Hid.of (HU3.out.trans (Hx5.out.trans h9))
    have HS6 := Hid.of (Ow.sb hO6.out)
    clear h9 hO6
    rw [← HBn.out] at HS6 ⊢
    dsimp only
    have hcv1 := conv_sb2 HS6.out
    have hcv2 := conv_sb2 (HB.out.up HU6.out)
    go_wp2
    clear hcv1 hcv2
    have hst : 1 + (L : Int) / 2000 = ((L / 2000 + 1 : Nat) : Int) := by omega
    have hst1 : 1 ≤ L / 2000 + 1 := by omega
    have hst2 : L / 2000 + 1 ≤ L + 1 := by omega
    rw [hst]
    clear hst
    generalize L / 2000 + 1 = st at *
    go_loopw [13] (fun v13 wr => ∃ k : Nat, v13 = .int .i64 (k : Int) ∧ k ≤ 3 * L + 3 ∧ Hid (Up w6 wr)) (fun v13 _ => L - (intOf v13).toNat)
    case atStart => exact ⟨0, rfl, Nat.zero_le _, Hid.of (Up.refl _)⟩
    case round =>
      obtain ⟨k, rfl, hk, hU⟩ := hrel
      have HUr := Hid.of hU.out
      clear hU
      by_cases hkn : k < L
      · have hkz : (k : Int) < (L : Int) := by omega
        have HC := Hid.of (Unchunk_walk ad (a := a8) (n := k) (c := c8) (by omega) wr ((HSp.out k (by omega)).up (Hx6.out.trans HUr.out)) (HW.out.up (HU6.out.trans HUr.out)).ge)
        rw [HKp.out k hkn] at HC
        go_wp2_with (with_reducible show wpList _ _ _ ({ dst := _, op := Op.slice 22 _ _ _ _, type := _, pos := _, after := _, guard := _ } :: _) _ _; refine Shut.out ?_)
        show wpList _ _ _ _ _ _
        refine wpList_val7 (.slice a8 k c8) rfl (exec_subhi (by omega) rfl rfl rfl) ?_
        simp only [Act.put, List.setIfInBounds_toArray, List.set_cons_zero, List.set_cons_succ]
        go_wp2_with fail
        refine HC.out.mono ?_
        rintro e w7 ⟨hR7, h9⟩
        obtain rfl := hR7
        have HU7 := Hid.of (HUr.out.trans h9)
        clear h9 HC
        dsimp only
        rw [show numK 2 = 140 from rfl]
        go_wp2
        go_roundw
        all_goals first
          | exact ⟨k + st, by go_num, by omega, Hid.of HU7.out⟩
          | (simp [intOf]; omega)
      · have hkz : ¬ (k : Int) < (L : Int) := by omega
        have HUw := Hid.of (HU6.out.trans HUr.out)
        go_wp2_with (with_reducible show wpList _ _ _ ({ dst := _, op := Op.convert 9 22 _, type := _, pos := _, after := _, guard := _ } :: _) _ _; refine Shut.out ?_)
        show wpList _ _ _ _ _ _
        refine wpList_conv rfl _ rfl ⟨chH.toArray⟩ (by decide) rfl ?_
        intro v9 w9 o9 u9
        obtain ⟨a9, c9, rfl⟩ : ∃ a9 c9, v9 = .slice a9 56 c9 := by
          obtain ⟨g, cap, cur, fr, e, _⟩ := o9
          exact ⟨_, _, e⟩
        have HO9 := Hid.of (show OwnM w9 wr.heap.size (.slice a9 56 c9) chH from o9)
        have Hx9 := Hid.of u9
        clear o9 u9
        simp only [Act.put, List.setIfInBounds_toArray, List.set_cons_zero, List.set_cons_succ]
        go_wp2_with (with_reducible show wpList _ _ _ ({ dst := _, op := Op.call { callee := Callee.builtin Builtin.append, args := _, argTypes := _ }, type := _, pos := _, after := _, guard := _ } :: _) _ _; refine Shut.out ?_)
        show wpList _ _ _ _ _ _
        refine wpList_appSbM rfl _ _ rfl wr.heap.size _ _ chH C rfl HO9.out rfl ((HS8.out.up (Hx6.out.trans HUr.out)).up Hx9.out) (fun e => by have := HL.out; rw [e] at this; simp at this; omega) (by rw [HL.out]; show 56 + L ≤ _; omega) Hx9.out.size ?_
        intro a10 c10 w10 o10 b10
        have HU10 := Hid.of (below_up b10 (HUw.out.trans Hx9.out) HUw.out.size)
        have HS10 := Hid.of o10.sb
        rw [HL.out, show chH.length = 56 from rfl] at HS10 ⊢
        clear o10 b10 HO9
        simp only [Act.put, List.setIfInBounds_toArray, List.set_cons_zero, List.set_cons_succ]
        go_wp2_with fail
        refine (ParseRequest_walk ad (by omega) w10 HS10.out (HW.out.up HU10.out)).mono ?_
        rintro e w11 ⟨hR11, h9⟩
        rw [HKr.out] at hR11
        obtain ⟨aP, cP, vP, rfl, hO11⟩ := hR11
        obtain ⟨aB, cB, rfl⟩ := row_len hO11.out.2
        have HU11 := Hid.of (HU10.out.trans h9)
        have HB11 := Hid.of (Ow.sb hO11.out.2)
        clear h9 hO11
        rw [chX_V]
        obtain ⟨cl, hcl⟩ : ∃ cl, cls (chX.mi == 0) chX.fs = cl := ⟨_, rfl⟩
        rw [hcl, ← HBn.out]
        rw [← HBn.out] at HB11
        clear hcl
        dsimp only
        have hcv1 := conv_sb2 (HB11.out.up ((Up.refl w11).alloc (.cells #[.string ⟨#[80, 79, 83, 84]⟩, .string ⟨#[47]⟩, .int .i64 1, .slice aP 2 cP, .slice aB nb cB, .bool cl] 27)))
        have hcv2 := conv_sb2 (HB.out.up (HU11.out.alloc (.cells #[.string ⟨#[80, 79, 83, 84]⟩, .string ⟨#[47]⟩, .int .i64 1, .slice aP 2 cP, .slice aB nb cB, .bool cl] 27)))
        have HU12 := Hid.of (HU11.out.alloc (.cells #[.string ⟨#[80, 79, 83, 84]⟩, .string ⟨#[47]⟩, .int .i64 1, .slice aP 2 cP, .slice aB nb cB, .bool cl] 27))
        have hne : ((56 + (L : Int)) == 56 + (L : Int)) = true := by simp
        go_wp2
        go_ret
        exact ⟨rfl, HU12.out⟩
end Go.Proofs.YtbgjnghjddcooaaGreatDoor
