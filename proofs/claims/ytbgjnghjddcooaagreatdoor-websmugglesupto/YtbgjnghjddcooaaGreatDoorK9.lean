import Derived.Test.YtbgjnghjddcooaaGreatDoorK2
import Derived.Test.YtbgjnghjddcooaaGreatDoorK5
import Derived.Test.YtbgjnghjddcooaaGreatDoorSq
import Derived.Test.YtbgjnghjddcooaaGreatDoorWh
namespace Go.Proofs.YtbgjnghjddcooaaGreatDoor
open Go.RowKit Go.Shelf TextNum
/-- lines with their ends -/
def fl (Ls : List (List UInt8)) : List UInt8 := Ls.flatMap fun s => s ++ [13, 10]
theorem fl_cons (s : List UInt8) (r : List (List UInt8)) (R : List UInt8) : fl (s :: r) ++ R = s ++ 13 :: 10 :: (fl r ++ R) := by simp [fl]
theorem fl_app (a b : List (List UInt8)) : fl (a ++ b) = fl a ++ fl b := by simp [fl]
theorem fl_lbs (F : List FD) : lbs F = fl (F.map bod) := by
  induction F with
  | nil => rfl
  | cons f r ih =>
    have e : lbs (f :: r) = lnb f ++ lbs r := by simp [lbs]
    rw [e, lnb_bod, ih, List.map_cons]
    have := fl_cons (bod f) (r.map bod) []
    rw [List.append_nil, List.append_nil] at this
    exact this.symm
theorem mfl_ls : ∀ (F : List (List UInt8)) (fu : Nat) (R : List UInt8), F.length < fu → (∀ s ∈ F, (10 : UInt8) ∉ s ∧ s ≠ []) → (fl F).length ≤ 16384 → mfl fu (fl F ++ 13 :: 10 :: R) = some ((fl F).length, (fl F).length + 2)
  | [], fu + 1, R, _, _, _ => by
    unfold mfl
    have h := cutL_line (most := 16384) (s := []) (R := R) (by simp) (by simp)
    rw [List.nil_append] at h
    show (match cutL 16384 (13 :: 10 :: R) with | .error _ => none | .ok (ln, k) => if ln = [] then some (0, k) else _) = _
    rw [h]
    rfl
  | f :: r, fu + 1, R, hf, hg, hl => by
    have e2 : (fl (f :: r)).length = f.length + 2 + (fl r).length := by simp [fl]; omega
    rw [e2] at hl
    have ih := mfl_ls r fu R (by simp at hf; omega) (fun g hg' => hg g (List.mem_cons_of_mem _ hg')) (by omega)
    have hc := cutL_line (most := 16384) (s := f) (R := fl r ++ 13 :: 10 :: R) (hg f (List.mem_cons_self ..)).1 (by omega)
    unfold mfl
    rw [fl_cons, hc]
    dsimp only
    rw [if_neg (hg f (List.mem_cons_self ..)).2]
    have hd : (f ++ 13 :: 10 :: (fl r ++ 13 :: 10 :: R)).drop (f.length + 2) = fl r ++ 13 :: 10 :: R := by
      rw [← List.drop_drop, List.drop_left' rfl]
      rfl
    rw [hd, ih, e2]
    show some (f.length + 2 + (fl r).length, f.length + 2 + ((fl r).length + 2)) = _
    rw [Nat.add_assoc (f.length + 2)]
theorem fl_len (F : List (List UInt8)) : 2 * F.length ≤ (fl F).length := by
  induction F with
  | nil => simp [fl]
  | cons f r ih =>
    have e2 : (fl (f :: r)).length = f.length + 2 + (fl r).length := by simp [fl]; omega
    rw [e2, List.length_cons]
    omega
theorem mF_ls {F : List (List UInt8)} {R : List UInt8} (hg : ∀ s ∈ F, (10 : UInt8) ∉ s ∧ s ≠ []) (hl : (fl F).length + 2 ≤ 16384) : mF (fl F ++ 13 :: 10 :: R) = .ok ((fl F).length, (fl F).length + 2) := by
  have h2 := fl_len F
  have ht : (fl F ++ 13 :: 10 :: R).take 16384 = fl F ++ 13 :: 10 :: R.take (16384 - ((fl F).length + 2)) := by
    rw [List.take_append, List.take_of_length_le (by omega)]
    rw [show 16384 - (fl F).length = (16384 - ((fl F).length + 2)) + 1 + 1 by omega, List.take_succ_cons, List.take_succ_cons]
  unfold mF
  rw [ht, mfl_ls F _ _ (by simp only [List.length_append, List.length_cons]; omega) hg (by omega)]
theorem cHd_ls {pl : Nat} {st : List UInt8} {F : List (List UInt8)} {R : List UInt8} (h10 : (10 : UInt8) ∉ st) (hs : st.length ≤ 8000) (hg : ∀ s ∈ F, (10 : UInt8) ∉ s ∧ s ≠ []) (hl : (fl F).length + 2 ≤ 16384) : cHd pl (st ++ 13 :: 10 :: (fl F ++ 13 :: 10 :: R)) = .ok (st, fl F, st.length + 2 + ((fl F).length + 2)) := by
  unfold cHd
  rw [cutL_line h10 hs]
  dsimp only
  have hd : (st ++ 13 :: 10 :: (fl F ++ 13 :: 10 :: R)).drop (st.length + 2) = fl F ++ 13 :: 10 :: R := by
    rw [← List.drop_drop, List.drop_left' rfl]
    rfl
  rw [hd, mF_ls hg hl]
  dsimp only
  rw [List.take_left' rfl]
theorem fl_join (F : List (List UInt8)) : fl F = joinL (F.map fun f => f ++ [13]) := by
  induction F with
  | nil => rfl
  | cons f r ih =>
    rw [List.map_cons, joinL_cons, ← ih]
    have := fl_cons f r []
    rw [List.append_nil, List.append_nil] at this
    rw [this]
    simp
theorem fl_lines {F : List (List UInt8)} (h : ∀ f ∈ F, (10 : UInt8) ∉ f) : linesOf (fl F) = F.map fun f => f ++ [13] := by
  rw [fl_join]
  refine lines_join _ fun x hx => ?_
  obtain ⟨f, hf, rfl⟩ := List.mem_map.1 hx
  rw [List.mem_append]
  rintro (h1 | h1)
  · exact h f hf h1
  · simp at h1
theorem fl_count {F : List (List UInt8)} (h : ∀ f ∈ F, (10 : UInt8) ∉ f) : Go.Lib.countByte (fl F) 10 = F.length := by
  unfold Go.Lib.countByte
  induction F with
  | nil => rfl
  | cons f r ih =>
    have e2 : fl (f :: r) = f ++ 13 :: 10 :: fl r := by
      have := fl_cons f r []
      rw [List.append_nil, List.append_nil] at this
      exact this
    rw [e2, List.count_append, List.count_eq_zero_of_not_mem (h f (List.mem_cons_self ..))]
    have ih' := ih (fun g hg => h g (List.mem_cons_of_mem _ hg))
    rw [List.count_cons, List.count_cons, ih', List.length_cons]
    simp
/-- the bad lines of the law -/
def bads : List (List (List UInt8)) := [[[97, 32, 58, 32, 98]],
  [[32, 97, 58, 32, 98]],
  [[9, 97, 58, 32, 98]],
  [[97, 32, 98]],
  [[58, 32, 98]],
  [[97]],
  [[97, 58, 0]],
  [[97, 58, 32, 98, 13, 99]],
  [[40, 97, 41, 58, 32, 98]],
  [[97, 58, 32, 127]],
  [[67, 111, 110, 116, 101, 110, 116, 45, 76, 101, 110, 103, 116, 104, 58, 32, 49], [67, 111, 110, 116, 101, 110, 116, 45, 76, 101, 110, 103, 116, 104, 58, 32, 49]],
  [[84, 114, 97, 110, 115, 102, 101, 114, 45, 69, 110, 99, 111, 100, 105, 110, 103, 58, 32, 99, 104, 117, 110, 107, 101, 100], [67, 111, 110, 116, 101, 110, 116, 45, 76, 101, 110, 103, 116, 104, 58, 32, 49]],
  [[84, 114, 97, 110, 115, 102, 101, 114, 45, 69, 110, 99, 111, 100, 105, 110, 103, 58, 32, 103, 122, 105, 112]],
  [[67, 111, 110, 116, 101, 110, 116, 45, 76, 101, 110, 103, 116, 104, 58, 32, 43, 49]],
  [[67, 111, 110, 116, 101, 110, 116, 45, 76, 101, 110, 103, 116, 104, 58, 32, 48, 49]],
  [[67, 111, 110, 116, 101, 110, 116, 45, 76, 101, 110, 103, 116, 104, 58, 32, 49, 44, 49]],
  [[67, 111, 110, 116, 101, 110, 116, 45, 76, 101, 110, 103, 116, 104, 58]],
  [[116, 114, 97, 110, 115, 102, 101, 114, 45, 69, 78, 67, 79, 68, 73, 78, 71, 58, 32, 99, 104, 117, 110, 107, 101, 100], [84, 114, 97, 110, 115, 102, 101, 114, 45, 69, 110, 99, 111, 100, 105, 110, 103, 58, 32, 99, 104, 117, 110, 107, 101, 100]]]
def flY (Ys : List (List UInt8)) : List FD := Ys.map fun y => fln (y ++ [13])
def is5 {X : Type} : Er X → Bool
  | .error 5 => true
  | _ => false
theorem is5_eq {X : Type} {x : Er X} (h : is5 x = true) : x = .error 5 := by
  unfold is5 at h
  split at h
  · rfl
  · cases h
def badk (Ys : List (List UInt8)) : Bool := (Ys.all fun y => !(y.contains 10) && !(y.isEmpty)) && decide ((fl Ys).length ≤ 100) && decide (Ys.length ≤ 2) && ((Ys.any fun y => !(fok (y ++ [13]))) || ((Ys.all fun y => fok (y ++ [13])) && (flY Ys).all okh && decide ((flY Ys).countP ish = 0) && is5 (frm (flY Ys) 1 0)))
theorem bads_k : ∀ Ys ∈ bads, badk Ys = true := by decide +kernel
theorem filter_no {F : List FD} (h : ∀ f ∈ F, tls f = false) : F.filter tls = [] := by
  rw [List.filter_eq_nil_iff]
  intro f hf
  rw [h f hf]
  simp
theorem frm_app {X F : List FD} {mi u : Int} (h : ∀ f ∈ F, tls f = false) : frm (X ++ F) mi u = frm X mi u := by
  have hi : F.any isc = false := by
    rw [List.any_eq_false]
    intro f hf
    rw [tls_isc (h f hf)]
    simp
  have hb : F.any (bdc mi) = false := by
    rw [List.any_eq_false] at hi ⊢
    intro f hf
    unfold bdc
    have := hi f hf
    simp only [Bool.not_eq_true] at this
    rw [this]
    simp
  have hc : F.countP tls = 0 := by
    rw [List.countP_eq_zero]
    intro f hf
    rw [h f hf]
    simp
  unfold frm
  rw [List.any_append, List.any_append, List.countP_append, hi, hb, hc, Bool.or_false, Bool.or_false, Nat.add_zero]
  have hl : lst (X ++ F) = lst X := by
    unfold lst
    rw [List.filter_append, filter_no h, List.append_nil]
  rw [hl]
theorem ckh_app {X F : List FD} {mi : Int} (h : ckh F mi = none) (hX : X.all okh = true) (hc : X.countP ish = 0) : ckh (X ++ F) mi = none := by
  unfold ckh at h ⊢
  rw [List.all_append, hX, Bool.true_and, List.countP_append, hc, Nat.zero_add]
  exact h
theorem rqP_bad {m t : ByteArray} {fs : List FD} {Ys : List (List UInt8)} (h : ckq m t 1 (pfs fs) 0 = none) (hY : Ys ∈ bads) (hn : (pfs fs).length ≤ 60) (hl : (lbs (pfs fs)).length ≤ 16000) (tl : List UInt8) :
    rqP (frS m t 1 ++ 13 :: 10 :: (fl Ys ++ (lbs (pfs fs) ++ 13 :: 10 :: tl))) = .error 5 := by
  obtain ⟨h1, h2, h3⟩ := ckq_ok h
  obtain ⟨k1, k2, k3, k4, k5, k6⟩ := ckq_none h
  obtain ⟨f1, f2⟩ := ckf_none k5
  have hb := bads_k Ys hY
  unfold badk at hb
  rw [Bool.and_eq_true, Bool.and_eq_true, Bool.and_eq_true, decide_eq_true_eq, decide_eq_true_eq] at hb
  obtain ⟨⟨⟨b1, b2⟩, b3⟩, b4⟩ := hb
  have hg : ∀ f ∈ pfs fs, gud f := fun f hf => ⟨f2 f hf, (pfs_tidy hf).1⟩
  have htl : ∀ f ∈ pfs fs, tls f = false := fun f hf => (pfs_tidy hf).2
  generalize pfs fs = F at *
  have hY1 : ∀ y ∈ Ys, (10 : UInt8) ∉ y ∧ y ≠ [] := by
    intro y hy
    have := List.all_eq_true.1 b1 y hy
    rw [Bool.and_eq_true] at this
    refine ⟨fun hm => ?_, fun e => ?_⟩
    · have h5 := this.1
      rw [List.contains_iff_mem.2 hm] at h5
      cases h5
    · rw [e] at this
      exact absurd this.2 (by decide)
  have hLs : ∀ s ∈ Ys ++ F.map bod, (10 : UInt8) ∉ s ∧ s ≠ [] := by
    intro s hs
    rcases List.mem_append.1 hs with hs | hs
    · exact hY1 s hs
    · obtain ⟨f, hf, rfl⟩ := List.mem_map.1 hs
      exact ⟨bod_no (f2 f hf), by simp [bod]⟩
  have hfl : fl (Ys ++ F.map bod) = fl Ys ++ lbs F := by rw [fl_app, fl_lbs]
  have hno := frS_no (m := m) (t := t) (mi := 1) k1 k2 k4
  have hsl := frS_len m t 1
  have hrl := rql_frS (mi := 1) k1 k2 k3 k4
  have e : frS m t 1 ++ 13 :: 10 :: (fl Ys ++ (lbs F ++ 13 :: 10 :: tl)) = frS m t 1 ++ 13 :: 10 :: (fl (Ys ++ F.map bod) ++ 13 :: 10 :: tl) := by rw [hfl, List.append_assoc]
  unfold rqP msg
  rw [e, cHd_ls hno (by omega) hLs (by rw [hfl, List.length_append]; omega)]
  dsimp only
  have hrd : rdf (fl (Ys ++ F.map bod)) = if (Ys.all fun y => fok (y ++ [13])) = true then .ok (flY Ys ++ F) else .error 5 := by
    unfold rdf
    rw [fl_count (fun f hf => (hLs f hf).1), if_neg (by rw [List.length_append, List.length_map]; omega), fl_lines (fun f hf => (hLs f hf).1)]
    have hF : (F.map bod).map (fun f => f ++ [13]) = F.map fun f => bod f ++ [13] := by rw [List.map_map]; rfl
    have hall : (List.map (fun f => f ++ [13]) (F.map bod)).all fok = true := by
      rw [hF, List.all_map, List.all_eq_true]
      intro f hf
      exact fok_bod (hg f hf)
    rw [List.map_append, List.all_append, hall, Bool.and_true, List.map_append, hF, List.map_map, List.map_map]
    have h6 : List.map (fln ∘ fun f => bod f ++ [13]) F = F := by
      have : ∀ f ∈ F, (fln ∘ fun f => bod f ++ [13]) f = f := fun f hf => fln_bod (hg f hf)
      rw [List.map_congr_left this, List.map_id']
    rw [h6, List.all_map]
    rfl
  have hrg : rqg (frS m t 1) (fl (Ys ++ F.map bod)) = .error 5 := by
    unfold rqg
    rw [hrl]
    dsimp only
    rw [hrd]
    rw [Bool.or_eq_true] at b4
    rcases b4 with b4 | b4
    · rw [if_neg (by
        rw [List.any_eq_true] at b4
        obtain ⟨y, hy, hy2⟩ := b4
        intro h7
        have := List.all_eq_true.1 h7 y hy
        rw [this] at hy2
        cases hy2)]
    · rw [Bool.and_eq_true, Bool.and_eq_true, Bool.and_eq_true, decide_eq_true_eq] at b4
      obtain ⟨⟨⟨c1, c2⟩, c3⟩, c4⟩ := b4
      rw [if_pos c1]
      dsimp only
      rw [ckh_app k6 c2 c3]
      dsimp only
      rw [frm_app htl, is5_eq c4]
  rw [hrg]
end Go.Proofs.YtbgjnghjddcooaaGreatDoor
namespace Go.Proofs.YtbgjnghjddcooaaGreatDoor
open Go.RowKit Go.Shelf TextNum
theorem rqP_pre {l : List UInt8} {x : Rq} {b : List UInt8} (h : rqP l = .ok ((x, b), l.length)) {i : Nat} (hi : i < l.length) : rqP (l.take i) = .error 2 := by
  have e := List.take_append_drop i l
  have hl : (l.take i).length = i := by rw [List.length_take]; omega
  cases hc : rqP (l.take i) with
  | error k =>
    by_cases hk : k = 2
    · rw [hk]
    · have h1 : rqP (l.take i ++ l.drop i) = .error k := msg_er hc hk
      rw [e, h] at h1
      cases h1
  | ok q =>
    obtain ⟨⟨y, c⟩, n⟩ := q
    obtain ⟨h1, h2⟩ := rqP_ok hc (l.drop i)
    rw [e, h] at h1
    injection h1 with h1
    injection h1 with _ h1
    omega
theorem parse_short (ad : Nat → Addr) {a : Option Addr} {n c : Nat} {ds : List UInt8} (hn40 : n ≤ 1099511627776) (w : World) (hS : Sb w (.slice a n c) ds) (hW : GW w ad) (h : rqP ds = .error 2) :
    Calls Tryz.prog 11 #[.slice a n c] w fun e w' => e = .returned (.tuple #[.agg #[.string ⟨#[]⟩, .string ⟨#[]⟩, .int .i64 0, .slice none 0 0, .slice none 0 0, .bool false], .int .i64 0, .int .i64 140]) ∧ Up w w' := by
  refine (ParseRequest_walk ad hn40 w hS hW).mono ?_
  rintro e w' ⟨hR, hU⟩
  rw [h] at hR
  exact ⟨hR, hU⟩
set_option maxRecDepth 100000 in
set_option maxHeartbeats 2000000 in
theorem short_walk (ad : Nat → Addr) {a : Option Addr} {n c : Nat} {ds : List UInt8} (at' : Int) (hn40 : n ≤ 1099511627776) (hn : 0 < n) (w : World) (hS : Sb w (.slice a n c) ds) (hW : GW w ad) (hP : ∀ i, i < n → rqP (ds.take i) = .error 2) :
    Calls Tryz.prog 24 #[.slice a n c, .int .i64 at'] w fun e w' => e = .returned (.bool true) ∧ Up w w' := by
  obtain ⟨hnd, hnc, hcm⟩ := hS.len
  unfold maxLen at hcm
  subst hnd
  have HSb := Hid.of hS
  have HW := Hid.of hW
  have HPs := Hid.of (fun i (hi : i < ds.length) (w2 : World) (hU : Up w w2) => parse_short ad (a := a) (n := i) (c := c) (by omega) w2 ((hS.take i (by omega)).up hU) (hW.up hU) (hP i hi))
  obtain ⟨n, hnn⟩ : ∃ n, ds.length = n := ⟨_, rfl⟩
  rw [hnn] at HPs hn40 hn hnc ⊢
  clear hS hW hP hnn HSb
  go_enter Tryz.func24, Tryz.ntmps24
  go_wp2
  have hst : (n : Int) / 200 + 1 = ((n / 200 + 1 : Nat) : Int) := by omega
  have hs1 : 1 ≤ n / 200 + 1 := by omega
  have hs2 : n / 200 + 1 ≤ n + 1 := by omega
  rw [hst]
  clear hst
  generalize n / 200 + 1 = st at *
  go_loopw [6] (fun v6 wr => ∃ k : Nat, v6 = .int .i64 (k : Int) ∧ k ≤ 3 * n + 3 ∧ Hid (Up w wr)) (fun v6 _ => n - (intOf v6).toNat)
  case atStart => exact ⟨0, rfl, Nat.zero_le _, Hid.of (Up.refl _)⟩
  case round =>
    obtain ⟨k, rfl, hk, hU⟩ := hrel
    have HU := Hid.of hU.out
    clear hU
    by_cases hkn : k < n
    · have hkz : (k : Int) < (n : Int) := by omega
      have HC := Hid.of (HPs.out k hkn wr HU.out)
      go_wp2_with (with_reducible show wpList _ _ _ ({ dst := _, op := Op.slice 22 _ _ _ _, type := _, pos := _, after := _, guard := _ } :: _) _ _; refine Shut.out ?_)
      show wpList _ _ _ _ _ _
      refine wpList_val7 (.slice a k c) rfl (exec_subhi (by omega) rfl rfl rfl) ?_
      simp only [Act.put, List.setIfInBounds_toArray, List.set_cons_zero, List.set_cons_succ]
      go_wp2_with fail
      refine HC.out.mono ?_
      rintro e w2 ⟨rfl, h9⟩
      have HU2 := Hid.of ((HU.out.trans h9).alloc (.cells #[.string ⟨#[]⟩, .string ⟨#[]⟩, .int .i64 0, .slice none 0 0, .slice none 0 0, .bool false] 27))
      clear h9
      dsimp only
      go_wp2
      go_roundw
      all_goals first
        | exact ⟨k + st, by go_num, by omega, Hid.of HU2.out⟩
        | (simp [intOf]; omega)
    · have hkz : ¬ (k : Int) < (n : Int) := by omega
      obtain ⟨j, hj, hjn⟩ : ∃ j : Nat, (wrap64 (at'.tmod (n : Int) + (n : Int))).tmod (n : Int) = (j : Int) ∧ j < n := by
        have hn0 : (0 : Int) < (n : Int) := by omega
        have t1 := Int.tmod_lt_of_pos at' hn0
        have t2 := Int.lt_tmod_of_pos at' hn0
        have e : wrap64 (at'.tmod (n : Int) + (n : Int)) = at'.tmod (n : Int) + (n : Int) := by
          have h3 := IntWalk.i64_left (at'.tmod (n : Int) + (n : Int))
          rw [← h3]
          exact IntWalk.i64_in _ (by omega)
        rw [e]
        have t3 := Int.tmod_lt_of_pos (at'.tmod (n : Int) + (n : Int)) hn0
        have t4 : 0 ≤ (at'.tmod (n : Int) + (n : Int)).tmod (n : Int) := Int.tmod_nonneg _ (by omega)
        exact ⟨((at'.tmod (n : Int) + (n : Int)).tmod (n : Int)).toNat, by omega, by omega⟩
      have HC := Hid.of (HPs.out j hjn wr HU.out)
      have HJ := Hid.of hj
      clear hj
      go_wp2_with (with_reducible show wpList _ _ _ ({ dst := _, op := Op.slice 22 _ _ _ _, type := _, pos := _, after := _, guard := _ } :: _) _ _; refine Shut.out ?_)
      show wpList _ _ _ _ _ _
      rw [HJ.out]
      refine wpList_val7 (.slice a j c) rfl (exec_subhi (by omega) rfl rfl rfl) ?_
      simp only [Act.put, List.setIfInBounds_toArray, List.set_cons_zero, List.set_cons_succ]
      go_wp2_with fail
      refine HC.out.mono ?_
      rintro e w2 ⟨rfl, h9⟩
      have HU2 := Hid.of ((HU.out.trans h9).alloc (.cells #[.string ⟨#[]⟩, .string ⟨#[]⟩, .int .i64 0, .slice none 0 0, .slice none 0 0, .bool false] 27))
      clear h9
      dsimp only
      go_wp2
      go_ret
      exact ⟨rfl, HU2.out⟩
end Go.Proofs.YtbgjnghjddcooaaGreatDoor
namespace Go.Proofs.YtbgjnghjddcooaaGreatDoor
open Go.RowKit Go.Shelf TextNum
theorem trm_front {b : UInt8} {l : List UInt8} (h : blk b = true) : trm (b :: l) = trm l := by
  rw [trm_def, trm_def, List.reverse_cons, List.dropWhile_append]
  split
  · rename_i he
    have e : l.reverse.dropWhile blk = [] := by simpa using he
    rw [e, List.dropWhile_cons, h]
    rfl
  · rw [List.reverse_append]
    show (b :: (l.reverse.dropWhile blk).reverse).dropWhile blk = _
    rw [List.dropWhile_cons, h]
    rfl
theorem trm_back {b : UInt8} {l : List UInt8} (h : blk b = true) : trm (l ++ [b]) = trm l := by
  rw [trm_def, trm_def, List.reverse_append]
  show ((b :: l.reverse).dropWhile blk).reverse.dropWhile blk = _
  rw [List.dropWhile_cons, h]
  rfl
theorem blk_iff (b : UInt8) : blk b = (b == 32 || b == 9) := by
  unfold blk bks
  simp [List.contains, List.elem]
  cases (b == 32) <;> cases (b == 9) <;> rfl
theorem blk_yes32 {x : UInt8} (h : ((x.toNat : Int) == 32) = true) : blk x = true := by
  have h1 := eq_of_beq h
  have h2 : x = 32 := UInt8.toNat_inj.1 (by show x.toNat = 32; omega)
  rw [h2]
  decide
theorem blk_yes9 {x : UInt8} (h : ((x.toNat : Int) == 9) = true) : blk x = true := by
  have h1 := eq_of_beq h
  have h2 : x = 9 := UInt8.toNat_inj.1 (by show x.toNat = 9; omega)
  rw [h2]
  decide
theorem blk_no {x : UInt8} (h : ((x.toNat : Int) == 32) = false) (h9 : ((x.toNat : Int) == 9) = false) : blk x = false := by
  rw [blk_iff]
  rw [beq_eq_false_iff_ne] at h h9
  have a : (x == 32) = false := by rw [beq_eq_false_iff_ne]; rintro rfl; exact h rfl
  have b : (x == 9) = false := by rw [beq_eq_false_iff_ne]; rintro rfl; exact h9 rfl
  rw [a, b]
  rfl
theorem extr_drop (s : ByteArray) (k : Nat) : (s.extract k s.size).data.toList = s.data.toList.drop k := by
  have hz : s.size = s.data.toList.length := Go.Lib.size_eq s
  rw [ByteArray.data_extract, Array.toList_extract, List.extract_eq_drop_take', List.take_of_length_le (by rw [← hz]; exact Nat.le_refl _)]
theorem extr_take (s : ByteArray) (k : Nat) : (s.extract 0 k).data.toList = s.data.toList.take k := by
  rw [ByteArray.data_extract, Array.toList_extract, List.extract_eq_drop_take', List.drop_zero]
set_option maxRecDepth 100000 in
set_option maxHeartbeats 2000000 in
theorem trimmed_walk (s : ByteArray) (hs : s.size ≤ 1099511627776) (w : World) : Calls Tryz.prog 41 #[.string s] w fun e w' => e = .returned (vs (trm s.data.toList)) ∧ w' = w := by
  obtain ⟨r, hr⟩ : ∃ r, trm s.data.toList = r := ⟨_, rfl⟩
  have HR := Hid.of hr
  rw [hr]
  clear hr
  go_enter Tryz.func41, Tryz.ntmps41
  go_wp2
  go_loopw [0] (fun v0 wr => ∃ s' : ByteArray, v0 = .string s' ∧ s'.size ≤ 1099511627776 ∧ Hid (wr = w ∧ trm s'.data.toList = r)) (fun v0 _ => szOf v0)
  case atStart => exact ⟨s, rfl, hs, Hid.of ⟨rfl, HR.out⟩⟩
  case round =>
    obtain ⟨s', rfl, hs', hQ⟩ := hrel
    have HQ := Hid.of hQ.out
    clear hQ HR
    have HZ := Hid.of (Go.Lib.size_eq s')
    by_cases h0 : 0 < s'.size
    · have h0z : (0 : Int) < (s'.size : Int) := by omega
      have hg := sget' s' 0 h0
      have HE0 : s'.data.toList = s'.data.toList[0]'(by have := HZ.out; omega) :: s'.data.toList.drop 1 := by
        rw [List.getElem_cons_drop, List.drop_zero]
      generalize s'.data.toList[0]'(by have := HZ.out; omega) = x at hg HE0
      have HE := Hid.of HE0
      clear HE0
      cases h32 : ((x.toNat : Int) == 32) with
      | true =>
        have HBk := Hid.of (blk_yes32 h32)
        have HD := Hid.of (show trm (s'.extract 1 s'.size).data.toList = r by
          rw [extr_drop]
          have h1 := HQ.out.2
          rw [HE.out, trm_front HBk.out] at h1
          exact h1)
        have HSz := Hid.of (show (s'.extract 1 s'.size).size = s'.size - 1 by rw [ByteArray.size_extract]; omega)
        go_wp2
        go_roundw
        all_goals first
          | exact ⟨_, rfl, by rw [HSz.out]; omega, Hid.of ⟨HQ.out.1, HD.out⟩⟩
          | (show (s'.extract 1 s'.size).size < s'.size; rw [HSz.out]; omega)
          | (simp [szOf]; omega)
      | false =>
        cases h9 : ((x.toNat : Int) == 9) with
        | true =>
          have HBk := Hid.of (blk_yes9 h9)
          have HD := Hid.of (show trm (s'.extract 1 s'.size).data.toList = r by
            rw [extr_drop]
            have h1 := HQ.out.2
            rw [HE.out, trm_front HBk.out] at h1
            exact h1)
          have HSz := Hid.of (show (s'.extract 1 s'.size).size = s'.size - 1 by rw [ByteArray.size_extract]; omega)
          go_wp2
          go_roundw
          all_goals first
            | exact ⟨_, rfl, by rw [HSz.out]; omega, Hid.of ⟨HQ.out.1, HD.out⟩⟩
            | (show (s'.extract 1 s'.size).size < s'.size; rw [HSz.out]; omega)
            | (simp [szOf]; omega)
        | false =>
          have HD0 := Hid.of (show ∀ y, s'.data.toList.head? = some y → blk y = false by
            intro y hy
            rw [HE.out] at hy
            injection hy with hy
            rw [← hy]
            exact blk_no h32 h9)
          go_wp2
          go_loopw [0] (fun v0 wr => ∃ s2 : ByteArray, v0 = .string s2 ∧ s2.size ≤ 1099511627776 ∧ Hid (wr = w ∧ trm s2.data.toList = r ∧ ∀ x, s2.data.toList.head? = some x → blk x = false)) (fun v0 _ => szOf v0)
          case atStart => exact ⟨s', rfl, hs', Hid.of ⟨HQ.out.1, HQ.out.2, HD0.out⟩⟩
          case round =>
            obtain ⟨s2, rfl, hs2, hQ2⟩ := hrel
            have HQ2 := Hid.of hQ2.out
            clear hQ2
            by_cases h0 : 0 < s2.size
            · have h0z : (0 : Int) < (s2.size : Int) := by omega
              have hg := sget' s2 (s2.size - 1) (by omega)
              have HZ2 := Hid.of (Go.Lib.size_eq s2)
              have HE0 : s2.data.toList = s2.data.toList.take (s2.size - 1) ++ [s2.data.toList[s2.size - 1]'(by have := HZ2.out; omega)] := by
                rw [← List.take_succ_eq_append_getElem, List.take_of_length_le (by have := HZ2.out; omega)]
              generalize s2.data.toList[s2.size - 1]'(by have := HZ2.out; omega) = x at hg HE0
              have HE := Hid.of HE0
              clear HE0
              have hsub : (s2.size : Int) - 1 = ((s2.size - 1 : Nat) : Int) := by omega
              cases h32 : ((x.toNat : Int) == 32) with
              | true =>
                have HBk := Hid.of (blk_yes32 h32)
                have HD := Hid.of (show trm (s2.extract 0 (s2.size - 1)).data.toList = r by
                  rw [extr_take]
                  have h1 := HQ2.out.2.1
                  rw [HE.out, trm_back HBk.out] at h1
                  exact h1)
                have HH := Hid.of (show ∀ x, (s2.extract 0 (s2.size - 1)).data.toList.head? = some x → blk x = false by
                  intro y hy
                  rw [extr_take] at hy
                  refine HQ2.out.2.2 y ?_
                  rw [HE.out]
                  cases hl : s2.data.toList.take (s2.size - 1) with
                  | nil => rw [hl] at hy; cases hy
                  | cons a b => rw [hl] at hy; exact hy)
                have HSz := Hid.of (show (s2.extract 0 (s2.size - 1)).size = s2.size - 1 by rw [ByteArray.size_extract]; omega)
                go_wp2
                go_roundw
                all_goals first
                  | exact ⟨_, rfl, by rw [HSz.out]; omega, Hid.of ⟨HQ2.out.1, HD.out, HH.out⟩⟩
                  | (show s2.size - 0 = 0; omega)
                  | (show (s2.extract 0 (s2.size - 1)).size < s2.size; rw [HSz.out]; omega)
                  | (simp [szOf]; omega)
              | false =>
                cases h9 : ((x.toNat : Int) == 9) with
                | true =>
                  have HBk := Hid.of (blk_yes9 h9)
                  have HD := Hid.of (show trm (s2.extract 0 (s2.size - 1)).data.toList = r by
                    rw [extr_take]
                    have h1 := HQ2.out.2.1
                    rw [HE.out, trm_back HBk.out] at h1
                    exact h1)
                  have HH := Hid.of (show ∀ x, (s2.extract 0 (s2.size - 1)).data.toList.head? = some x → blk x = false by
                    intro y hy
                    rw [extr_take] at hy
                    refine HQ2.out.2.2 y ?_
                    rw [HE.out]
                    cases hl : s2.data.toList.take (s2.size - 1) with
                    | nil => rw [hl] at hy; cases hy
                    | cons a b => rw [hl] at hy; exact hy)
                  have HSz := Hid.of (show (s2.extract 0 (s2.size - 1)).size = s2.size - 1 by rw [ByteArray.size_extract]; omega)
                  go_wp2
                  go_roundw
                  all_goals first
                    | exact ⟨_, rfl, by rw [HSz.out]; omega, Hid.of ⟨HQ2.out.1, HD.out, HH.out⟩⟩
                    | (show s2.size - 0 = 0; omega)
                    | (show (s2.extract 0 (s2.size - 1)).size < s2.size; rw [HSz.out]; omega)
                    | (simp [szOf]; omega)
                | false =>
                  have HT := Hid.of (show s2.data.toList = r by
                    have h1 := HQ2.out.2.1
                    rw [trm_id ⟨HQ2.out.2.2, fun y hy => ?_⟩] at h1
                    · exact h1
                    · rw [HE.out, List.getLast?_concat] at hy
                      injection hy with hy
                      rw [← hy]
                      exact blk_no h32 h9)
                  go_wp2
                  go_ret
                  rw [← HT.out, vs_data']
                  exact ⟨rfl, HQ2.out.1⟩
            · have h0z : ¬ (0 : Int) < (s2.size : Int) := by omega
              have HT := Hid.of (show s2.data.toList = r by
                have h1 := HQ2.out.2.1
                have h2 : s2.data.toList = [] := List.eq_nil_of_length_eq_zero (by rw [← Go.Lib.size_eq]; omega)
                rw [h2] at h1 ⊢
                exact h1)
              go_wp2
              go_ret
              rw [← HT.out, vs_data']
              exact ⟨rfl, HQ2.out.1⟩
    · have h0z : ¬ (0 : Int) < (s'.size : Int) := by omega
      have HD0 := Hid.of (show ∀ y, s'.data.toList.head? = some y → blk y = false by
        intro y hy
        rw [List.eq_nil_of_length_eq_zero (show s'.data.toList.length = 0 by have := HZ.out; omega)] at hy
        cases hy)
      go_wp2
      go_loopw [0] (fun v0 wr => ∃ s2 : ByteArray, v0 = .string s2 ∧ s2.size ≤ 1099511627776 ∧ Hid (wr = w ∧ trm s2.data.toList = r ∧ ∀ x, s2.data.toList.head? = some x → blk x = false)) (fun v0 _ => szOf v0)
      case atStart => exact ⟨s', rfl, hs', Hid.of ⟨HQ.out.1, HQ.out.2, HD0.out⟩⟩
      case round =>
        obtain ⟨s2, rfl, hs2, hQ2⟩ := hrel
        have HQ2 := Hid.of hQ2.out
        clear hQ2
        by_cases h0 : 0 < s2.size
        · have h0z : (0 : Int) < (s2.size : Int) := by omega
          have hg := sget' s2 (s2.size - 1) (by omega)
          have HZ2 := Hid.of (Go.Lib.size_eq s2)
          have HE0 : s2.data.toList = s2.data.toList.take (s2.size - 1) ++ [s2.data.toList[s2.size - 1]'(by have := HZ2.out; omega)] := by
            rw [← List.take_succ_eq_append_getElem, List.take_of_length_le (by have := HZ2.out; omega)]
          generalize s2.data.toList[s2.size - 1]'(by have := HZ2.out; omega) = x at hg HE0
          have HE := Hid.of HE0
          clear HE0
          have hsub : (s2.size : Int) - 1 = ((s2.size - 1 : Nat) : Int) := by omega
          cases h32 : ((x.toNat : Int) == 32) with
          | true =>
            have HBk := Hid.of (blk_yes32 h32)
            have HD := Hid.of (show trm (s2.extract 0 (s2.size - 1)).data.toList = r by
              rw [extr_take]
              have h1 := HQ2.out.2.1
              rw [HE.out, trm_back HBk.out] at h1
              exact h1)
            have HH := Hid.of (show ∀ x, (s2.extract 0 (s2.size - 1)).data.toList.head? = some x → blk x = false by
              intro y hy
              rw [extr_take] at hy
              refine HQ2.out.2.2 y ?_
              rw [HE.out]
              cases hl : s2.data.toList.take (s2.size - 1) with
              | nil => rw [hl] at hy; cases hy
              | cons a b => rw [hl] at hy; exact hy)
            have HSz := Hid.of (show (s2.extract 0 (s2.size - 1)).size = s2.size - 1 by rw [ByteArray.size_extract]; omega)
            go_wp2
            go_roundw
            all_goals first
              | exact ⟨_, rfl, by rw [HSz.out]; omega, Hid.of ⟨HQ2.out.1, HD.out, HH.out⟩⟩
              | (show s2.size - 0 = 0; omega)
              | (show (s2.extract 0 (s2.size - 1)).size < s2.size; rw [HSz.out]; omega)
              | (simp [szOf]; omega)
          | false =>
            cases h9 : ((x.toNat : Int) == 9) with
            | true =>
              have HBk := Hid.of (blk_yes9 h9)
              have HD := Hid.of (show trm (s2.extract 0 (s2.size - 1)).data.toList = r by
                rw [extr_take]
                have h1 := HQ2.out.2.1
                rw [HE.out, trm_back HBk.out] at h1
                exact h1)
              have HH := Hid.of (show ∀ x, (s2.extract 0 (s2.size - 1)).data.toList.head? = some x → blk x = false by
                intro y hy
                rw [extr_take] at hy
                refine HQ2.out.2.2 y ?_
                rw [HE.out]
                cases hl : s2.data.toList.take (s2.size - 1) with
                | nil => rw [hl] at hy; cases hy
                | cons a b => rw [hl] at hy; exact hy)
              have HSz := Hid.of (show (s2.extract 0 (s2.size - 1)).size = s2.size - 1 by rw [ByteArray.size_extract]; omega)
              go_wp2
              go_roundw
              all_goals first
                | exact ⟨_, rfl, by rw [HSz.out]; omega, Hid.of ⟨HQ2.out.1, HD.out, HH.out⟩⟩
                | (show s2.size - 0 = 0; omega)
                | (show (s2.extract 0 (s2.size - 1)).size < s2.size; rw [HSz.out]; omega)
                | (simp [szOf]; omega)
            | false =>
              have HT := Hid.of (show s2.data.toList = r by
                have h1 := HQ2.out.2.1
                rw [trm_id ⟨HQ2.out.2.2, fun y hy => ?_⟩] at h1
                · exact h1
                · rw [HE.out, List.getLast?_concat] at hy
                  injection hy with hy
                  rw [← hy]
                  exact blk_no h32 h9)
              go_wp2
              go_ret
              rw [← HT.out, vs_data']
              exact ⟨rfl, HQ2.out.1⟩
        · have h0z : ¬ (0 : Int) < (s2.size : Int) := by omega
          have HT := Hid.of (show s2.data.toList = r by
            have h1 := HQ2.out.2.1
            have h2 : s2.data.toList = [] := List.eq_nil_of_length_eq_zero (by rw [← Go.Lib.size_eq]; omega)
            rw [h2] at h1 ⊢
            exact h1)
          go_wp2
          go_ret
          rw [← HT.out, vs_data']
          exact ⟨rfl, HQ2.out.1⟩
end Go.Proofs.YtbgjnghjddcooaaGreatDoor
namespace Go.Proofs.YtbgjnghjddcooaaGreatDoor
open Go.RowKit Go.Shelf TextNum
def clw : ByteArray := ⟨#[99, 111, 110, 116, 101, 110, 116, 45, 108, 101, 110, 103, 116, 104]⟩
def tew : ByteArray := ⟨#[116, 114, 97, 110, 115, 102, 101, 114, 45, 101, 110, 99, 111, 100, 105, 110, 103]⟩
theorem kep_lws (f : FD) : kep f = !(lws f.n.data.toList == clw.data.toList || lws f.n.data.toList == tew.data.toList) := by
  unfold kep kdf kdp
  generalize lws f.n.data.toList = x
  by_cases h1 : x = lws (kdT.getD 0 (⟨#[]⟩, 0)).1.data.toList
  · subst h1; decide +kernel
  · by_cases h2 : x = lws (kdT.getD 1 (⟨#[]⟩, 0)).1.data.toList
    · subst h2; decide +kernel
    · by_cases h3 : x = lws (kdT.getD 2 (⟨#[]⟩, 0)).1.data.toList
      · subst h3; decide +kernel
      · by_cases h4 : x = lws (kdT.getD 3 (⟨#[]⟩, 0)).1.data.toList
        · subst h4; decide +kernel
        · have e3 : lws (kdT.getD 2 (⟨#[]⟩, 0)).1.data.toList = tew.data.toList := by decide +kernel
          have e4 : lws (kdT.getD 3 (⟨#[]⟩, 0)).1.data.toList = clw.data.toList := by decide +kernel
          have hf : kdT.find? (fun p => lws p.1.data.toList == x) = none := by
            rw [List.find?_eq_none]
            intro p hp
            rw [beq_iff_eq]
            intro e
            have hk : kdT = [kdT.getD 0 (⟨#[]⟩, 0), kdT.getD 1 (⟨#[]⟩, 0), kdT.getD 2 (⟨#[]⟩, 0), kdT.getD 3 (⟨#[]⟩, 0)] := rfl
            rw [hk] at hp
            simp only [List.mem_cons, List.not_mem_nil, or_false] at hp
            rcases hp with rfl | rfl | rfl | rfl
            · exact h1 e.symm
            · exact h2 e.symm
            · exact h3 e.symm
            · exact h4 e.symm
          rw [e3] at h3
          rw [e4] at h4
          rw [hf]
          simp [h3, h4]
theorem Itoa_walk (n : Int) (h0 : -9223372036854775808 ≤ n) (h1 : n ≤ 9223372036854775807) (w : World) (hG : GN w) : Calls Tryz.prog 42 #[.int .i64 n] w fun e w' => e = .returned (vs (Go.Lib.itoa n)) ∧ Up w w' := by
  refine Calls.mono (Go.Proofs.Any.strconv_Itoa Tryz.laysm171 n h0 h1 w hG.tab) ?_
  rintro e w' ⟨rfl, k, os, rfl⟩
  exact ⟨rfl, ((Up.refl w).drewN k).trans (up_grow _ os)⟩
/-- the fields that must come back -/
def tld (fs : List FD) (len : Int) : List FD := if 0 ≤ len then pfs fs ++ [lnf len.toNat] else pfs fs
set_option maxRecDepth 100000 in
set_option maxHeartbeats 2000000 in
theorem told_walk (a : Option Addr) (fs : List FD) (c : Nat) (len : Int) (w : World) (h : FdL w a fs c) (hG : GN w) (hl : szs fs ≤ 1099511627776) (hlen : len ≤ 1099511627776) (hlen0 : -1 ≤ len) :
    Calls Tryz.prog 23 #[.slice a fs.length c, .int .i64 len] w fun e w' => (∃ a2 c2, e = .returned (.slice a2 (tld fs len).length c2) ∧ Hid (FdO w' w.heap.size a2 (tld fs len) c2)) ∧ Up w w' := by
  have HF := Hid.of h
  have HGn := Hid.of hG
  have hcap := h.cap
  have hsl := szs_len fs
  have HZ := Hid.of (fun i => Nat.le_trans (szs_take fs i) hl)
  clear h hG hl
  have hfl : fs.length ≤ 1099511627776 := by have := HZ.out fs.length; rw [List.take_length] at this; omega
  clear hsl
  go_enter Tryz.func23, Tryz.ntmps23
  go_wp2
  go_loopw [5, 6] (fun v5 v6 wr => ∃ i : Nat, v6 = .int .i64 (i : Int) ∧ i ≤ fs.length ∧ ∃ q a7 c7, v5 = .slice a7 q c7 ∧ q ≤ i ∧ Hid (FdO wr w.heap.size a7 (pfs (fs.take i)) c7 ∧ Up w wr ∧ (pfs (fs.take i)).length = q)) (fun _ v6 _ => fs.length - (intOf v6).toNat)
  case atStart => exact ⟨0, rfl, Nat.zero_le _, 0, none, 0, rfl, Nat.le_refl _, Hid.of ⟨World.ownsRow_nil _ _ _ _, Up.refl _, rfl⟩⟩
  case round =>
    obtain ⟨i, rfl, hi, q, a7, c7, rfl, hqi, hU⟩ := hrel
    have HQ := Hid.of hU.out
    clear hU
    by_cases hil : i < fs.length
    · have hilz : (i : Int) < (fs.length : Int) := by omega
      obtain ⟨b, off, rfl, k1, k2⟩ := HF.out.cells i hil
      have HT := Hid.of (List.take_succ_eq_append_getElem hil)
      obtain ⟨f, hf⟩ : ∃ f, fs[i] = f := ⟨_, rfl⟩
      rw [hf] at k1 k2 HT
      have HK1 := Hid.of k1
      have HK2 := Hid.of k2
      have h5 := HZ.out (i + 1)
      rw [HT.out, szs_snoc] at h5
      unfold szf at h5
      have hfv : f.v.size ≤ 1099511627776 := by omega
      have hfn : f.n.size ≤ 1099511627776 := by omega
      have HLn := Hid.of HQ.out.2.2
      have k3 := HQ.out.2.1.cell k1
      clear hf k1 k2 h5
      go_wp2_with (with_reducible show wpList _ _ _ ({ dst := _, op := Op.indexAddr 25 _ _, type := _, pos := _, after := _, guard := _ } :: _) _ _; refine Shut.out ?_)
      show wpList _ _ _ _ _ _
      refine wpList_val7 (.pointer (some ⟨b, off + i * 2, none⟩)) rfl (exec_idxFd i hil rfl rfl rfl) ?_
      simp only [Act.put, List.setIfInBounds_toArray, List.set_cons_zero, List.set_cons_succ]
      go_wp2_with fail
      refine (lowerL_walk f.n wr hfn).mono ?_
      rintro e w4 ⟨rfl, u5⟩
      have HU4 := Hid.of (HQ.out.2.1.trans u5)
      have HO4 := Hid.of (ow_up HQ.out.1 u5)
      clear u5 HQ k3
      have HNm0 : (⟨(lws f.n.data.toList).toArray⟩ : ByteArray).data.toList = lws f.n.data.toList := rfl
      generalize (⟨(lws f.n.data.toList).toArray⟩ : ByteArray) = nm at HNm0 ⊢
      have HNm := Hid.of HNm0
      clear HNm0
      dsimp only
      have e1 : (nm.toList == [99, 111, 110, 116, 101, 110, 116, 45, 108, 101, 110, 103, 116, 104]) = (nm.data.toList == clw.data.toList) := by rw [Go.Lib.toList_data]; rfl
      have e2 : (nm.toList == [116, 114, 97, 110, 115, 102, 101, 114, 45, 101, 110, 99, 111, 100, 105, 110, 103]) = (nm.data.toList == tew.data.toList) := by rw [Go.Lib.toList_data]; rfl
      cases h3 : (nm.data.toList == clw.data.toList) with
      | true =>
        rw [h3] at e1
        clear e2
        have HS7 := Hid.of (show pfs (fs.take (i + 1)) = pfs (fs.take i) by rw [HT.out, pfs_no (by rw [kep_lws, ← HNm.out]; simp [h3])])
        have HO8 := Hid.of (show FdO w4 w.heap.size a7 (pfs (fs.take (i + 1))) c7 by rw [HS7.out]; exact HO4.out)
        have HL8 := Hid.of (show (pfs (fs.take (i + 1))).length = q by rw [HS7.out]; exact HLn.out)
        go_wp2
        go_roundw
        all_goals first
          | exact ⟨i + 1, by go_num, by omega, q, a7, c7, rfl, by omega, Hid.of ⟨HO8.out, HU4.out, HL8.out⟩⟩
          | (simp [intOf]; omega)
      | false =>
        rw [h3] at e1
        cases h4 : (nm.data.toList == tew.data.toList) with
        | true =>
          rw [h4] at e2
          have HS7 := Hid.of (show pfs (fs.take (i + 1)) = pfs (fs.take i) by rw [HT.out, pfs_no (by rw [kep_lws, ← HNm.out]; simp [h3, h4])])
          have HO8 := Hid.of (show FdO w4 w.heap.size a7 (pfs (fs.take (i + 1))) c7 by rw [HS7.out]; exact HO4.out)
          have HL8 := Hid.of (show (pfs (fs.take (i + 1))).length = q by rw [HS7.out]; exact HLn.out)
          go_wp2
          go_roundw
          all_goals first
            | exact ⟨i + 1, by go_num, by omega, q, a7, c7, rfl, by omega, Hid.of ⟨HO8.out, HU4.out, HL8.out⟩⟩
            | (simp [intOf]; omega)
        | false =>
          rw [h4] at e2
          have HT2 := Hid.of (show pfs (fs.take (i + 1)) = pfs (fs.take i) ++ [tfd f] by rw [HT.out, pfs_yes (by rw [kep_lws, ← HNm.out]; simp [h3, h4])])
          have HL7 := Hid.of (show (pfs (fs.take (i + 1))).length = q + 1 by rw [HT2.out, List.length_append, HLn.out]; rfl)
          go_wp2
          refine wp_region_held_drew (S := fun w2 => Up w w2) (by kernel_rfl) HU4.out.drew (fun hS => ?_)
          refine wpAnyH_take (i := 0) (oi := { dst := some 26, op := Go.Op.move (Go.Operand.tmp 5), type := 25, pos := "outright.go:65", after := #[], guard := none }) (v := .slice a7 q c7) rfl (by kernel_rfl) (by kernel_rfl) (by kernel_rfl) (fun _ _ _ h => h) (Or.inl ⟨by kernel_rfl, ?_⟩) hS ?_
          · intro w5 hSw
            clear hSw hS
            go_simp
          simp only [Act.put, List.setIfInBounds_toArray, List.set_cons_zero, List.set_cons_succ]
          refine wpAnyH_take (i := 1) (oi := { dst := some 27, op := Go.Op.move (Go.Operand.tmp 0), type := 25, pos := "outright.go:65", after := #[], guard := none }) (v := .slice (some ⟨b, off, none⟩) fs.length c) rfl (by kernel_rfl) (by kernel_rfl) (by kernel_rfl) (fun _ _ _ h => h) (Or.inl ⟨by kernel_rfl, ?_⟩) hS ?_
          · intro w5 hSw
            clear hSw hS
            go_simp
          simp only [Act.put, List.setIfInBounds_toArray, List.set_cons_zero, List.set_cons_succ]
          refine wpAnyH_take (i := 2) (oi := { dst := some 28, op := Go.Op.move (Go.Operand.tmp 6), type := 3, pos := "outright.go:65", after := #[], guard := none }) (v := .int .i64 (i : Int)) rfl (by kernel_rfl) (by kernel_rfl) (by kernel_rfl) (fun _ _ _ h => h) (Or.inl ⟨by kernel_rfl, ?_⟩) hS ?_
          · intro w5 hSw
            clear hSw hS
            go_simp
          simp only [Act.put, List.setIfInBounds_toArray, List.set_cons_zero, List.set_cons_succ]
          refine wpAnyH_take (i := 3) (oi := { dst := some 29, op := Go.Op.indexAddr 25 (Go.Operand.tmp 27) (Go.Operand.tmp 28), type := 0, pos := "outright.go:65", after := #[{ on := 1, ground := Go.Ground.data }, { on := 2, ground := Go.Ground.data }], guard := none }) (v := .pointer (some ⟨b, off + i * 2, none⟩)) rfl (by kernel_rfl) (by kernel_rfl) (by kernel_rfl) (fun _ _ _ h => h) (Or.inl ⟨by kernel_rfl, ?_⟩) hS ?_
          · intro w5 hSw
            clear hSw hS
            exact exec_idxFd i hil rfl rfl rfl
          simp only [Act.put, List.setIfInBounds_toArray, List.set_cons_zero, List.set_cons_succ]
          refine wpAnyH_take (i := 4) (oi := { dst := some 30, op := Go.Op.fieldAddr 73 (Go.Operand.tmp 29) 0, type := 0, pos := "outright.go:65", after := #[{ on := 3, ground := Go.Ground.data }], guard := none }) (v := .pointer (some ⟨b, off + i * 2, none⟩)) rfl (by kernel_rfl) (by kernel_rfl) (by kernel_rfl) (fun _ _ _ h => h) (Or.inl ⟨by kernel_rfl, ?_⟩) hS ?_
          · intro w5 hSw
            clear hSw hS
            go_simp
          simp only [Act.put, List.setIfInBounds_toArray, List.set_cons_zero, List.set_cons_succ]
          refine wpAnyH_take (i := 5) (oi := { dst := some 31, op := Go.Op.load 9 (Go.Operand.tmp 30), type := 9, pos := "outright.go:65", after := #[{ on := 4, ground := Go.Ground.data }], guard := none }) (v := .string f.n) rfl (by kernel_rfl) (by kernel_rfl) (by kernel_rfl) (fun _ _ _ h => h) (Or.inl ⟨by kernel_rfl, ?_⟩) hS ?_
          · intro w5 hSw
            have h0 := hSw.cell HK1.out
            clear hSw hS
            go_simp
          simp only [Act.put, List.setIfInBounds_toArray, List.set_cons_zero, List.set_cons_succ]
          refine wpAnyH_take (i := 6) (oi := { dst := some 32, op := Go.Op.move (Go.Operand.tmp 0), type := 25, pos := "outright.go:65", after := #[], guard := none }) (v := .slice (some ⟨b, off, none⟩) fs.length c) rfl (by kernel_rfl) (by kernel_rfl) (by kernel_rfl) (fun _ _ _ h => h) (Or.inl ⟨by kernel_rfl, ?_⟩) hS ?_
          · intro w5 hSw
            clear hSw hS
            go_simp
          simp only [Act.put, List.setIfInBounds_toArray, List.set_cons_zero, List.set_cons_succ]
          refine wpAnyH_take (i := 7) (oi := { dst := some 33, op := Go.Op.move (Go.Operand.tmp 6), type := 3, pos := "outright.go:65", after := #[], guard := none }) (v := .int .i64 (i : Int)) rfl (by kernel_rfl) (by kernel_rfl) (by kernel_rfl) (fun _ _ _ h => h) (Or.inl ⟨by kernel_rfl, ?_⟩) hS ?_
          · intro w5 hSw
            clear hSw hS
            go_simp
          simp only [Act.put, List.setIfInBounds_toArray, List.set_cons_zero, List.set_cons_succ]
          refine wpAnyH_take (i := 8) (oi := { dst := some 34, op := Go.Op.indexAddr 25 (Go.Operand.tmp 32) (Go.Operand.tmp 33), type := 0, pos := "outright.go:65", after := #[{ on := 6, ground := Go.Ground.data }, { on := 7, ground := Go.Ground.data }], guard := none }) (v := .pointer (some ⟨b, off + i * 2, none⟩)) rfl (by kernel_rfl) (by kernel_rfl) (by kernel_rfl) (fun _ _ _ h => h) (Or.inl ⟨by kernel_rfl, ?_⟩) hS ?_
          · intro w5 hSw
            clear hSw hS
            exact exec_idxFd i hil rfl rfl rfl
          simp only [Act.put, List.setIfInBounds_toArray, List.set_cons_zero, List.set_cons_succ]
          refine wpAnyH_take (i := 9) (oi := { dst := some 35, op := Go.Op.fieldAddr 73 (Go.Operand.tmp 34) 1, type := 0, pos := "outright.go:65", after := #[{ on := 8, ground := Go.Ground.data }], guard := none }) (v := .pointer (some ⟨b, off + i * 2 + 1, none⟩)) rfl (by kernel_rfl) (by kernel_rfl) (by kernel_rfl) (fun _ _ _ h => h) (Or.inl ⟨by kernel_rfl, ?_⟩) hS ?_
          · intro w5 hSw
            clear hSw hS
            go_simp
          simp only [Act.put, List.setIfInBounds_toArray, List.set_cons_zero, List.set_cons_succ]
          refine wpAnyH_take (i := 10) (oi := { dst := some 36, op := Go.Op.load 9 (Go.Operand.tmp 35), type := 9, pos := "outright.go:65", after := #[{ on := 9, ground := Go.Ground.data }], guard := none }) (v := .string f.v) rfl (by kernel_rfl) (by kernel_rfl) (by kernel_rfl) (fun _ _ _ h => h) (Or.inl ⟨by kernel_rfl, ?_⟩) hS ?_
          · intro w5 hSw
            have h0 := hSw.cell HK2.out
            clear hSw hS
            go_simp
          simp only [Act.put, List.setIfInBounds_toArray, List.set_cons_zero, List.set_cons_succ]
          refine wpAnyH_ready (rs := [11]) (by kernel_rfl) (by simp) ?_
          refine AllReadyH.cons (o := { dst := some 37, op := Go.Op.call { callee := Go.Callee.value (Go.Operand.func 41), args := #[Go.Operand.tmp 36], argTypes := #[9] }, type := 9, pos := "outright.go:65", after := #[{ on := 10, ground := Go.Ground.data }], guard := none }) rfl (fun K hK => ?_) AllReadyH.nil
          rw [if_pos (by kernel_rfl)]
          go_simp
          refine (trimmed_walk f.v hfv w4.drew).mono ?_
          rintro e w6 ⟨rfl, h9⟩
          obtain rfl := h9.symm
          have HVt := Hid.of (show vs (trm f.v.data.toList) = .string (tfd f).v from rfl)
          clear h9
          rw [HVt.out]
          dsimp only
          refine hK.out _ _ hS (fun hS => ?_)
          clear hK K
          refine wpAnyH_take (i := 12) (oi := { dst := some 38, op := Go.Op.build 73 #[(0, Go.Operand.tmp 31), (1, Go.Operand.tmp 37)], type := 73, pos := "outright.go:65", after := #[{ on := 5, ground := Go.Ground.data }, { on := 11, ground := Go.Ground.data }], guard := none }) (v := .agg #[.string f.n, .string (tfd f).v]) rfl (by kernel_rfl) (by kernel_rfl) (by kernel_rfl) (fun _ _ _ h => h) (Or.inl ⟨by kernel_rfl, ?_⟩) hS ?_
          · intro w5 hSw
            clear hSw hS
            go_simp
          simp only [Act.put, List.setIfInBounds_toArray, List.set_cons_zero, List.set_cons_succ]
          refine wpAnyH_ready (rs := [13]) (by kernel_rfl) (by simp) ?_
          refine AllReadyH.cons (o := { dst := some 39, op := Go.Op.buildSlice 25 1 #[(0, Go.Operand.tmp 38)], type := 25, pos := "outright.go:65", after := #[{ on := 12, ground := Go.Ground.data }], guard := none }) rfl (fun K hK => ?_) AllReadyH.nil
          rw [if_pos (by kernel_rfl)]
          go_simp
          refine hK.out _ _ (hS.alloc _) (fun hS => ?_)
          clear hK K
          refine wpAnyH_ready (rs := [14]) (by kernel_rfl) (by simp) ?_
          refine AllReadyH.cons (o := { dst := some 40, op := Go.Op.call { callee := Go.Callee.builtin Go.Builtin.append, args := #[Go.Operand.tmp 26, Go.Operand.tmp 39], argTypes := #[25, 25] }, type := 25, pos := "outright.go:65", after := #[{ on := 0, ground := Go.Ground.data }, { on := 13, ground := Go.Ground.data }, { on := 11, ground := Go.Ground.chain }], guard := none }) rfl (fun K hK => oper_of_list ?_) AllReadyH.nil
          refine wpList_appFd (w := w4.drew) (N := w.heap.size) rfl _ _ rfl a7 c7 (pfs (fs.take i)) (tfd f) HLn.out rfl rfl (ow_up HO4.out (Up.refl _).drew) HU4.out.drew.size (by omega) ?_
          intro ax2 cx2 w7 o7 u7 g7
          have HO7 := Hid.of (show FdO w7 w.heap.size ax2 (pfs (fs.take (i + 1))) cx2 by rw [HT2.out]; exact o7)
          have HU7 := Hid.of (u7 w HU4.out.drew (Nat.le_refl _))
          clear o7 u7 g7
          refine hK.out _ _ HU7.out (fun hS => ?_)
          clear hK K
          simp only [Act.put, List.setIfInBounds_toArray, List.set_cons_zero, List.set_cons_succ]
          refine wpAnyH_take (i := 15) (oi := { dst := some 5, op := Go.Op.assign (Go.Operand.tmp 40), type := 25, pos := "outright.go:65", after := #[{ on := 14, ground := Go.Ground.data }, { on := 14, ground := Go.Ground.chain }, { on := 0, ground := Go.Ground.phase }, { on := 1, ground := Go.Ground.phase }, { on := 2, ground := Go.Ground.phase }, { on := 3, ground := Go.Ground.phase }, { on := 4, ground := Go.Ground.phase }, { on := 5, ground := Go.Ground.phase }, { on := 6, ground := Go.Ground.phase }, { on := 7, ground := Go.Ground.phase }, { on := 8, ground := Go.Ground.phase }, { on := 9, ground := Go.Ground.phase }, { on := 10, ground := Go.Ground.phase }, { on := 11, ground := Go.Ground.phase }, { on := 12, ground := Go.Ground.phase }, { on := 13, ground := Go.Ground.phase }, { on := 14, ground := Go.Ground.phase }], guard := none }) (v := .slice ax2 (q + 1) cx2) rfl (by kernel_rfl) (by kernel_rfl) (by kernel_rfl) (fun _ _ _ h => h) (Or.inl ⟨by kernel_rfl, ?_⟩) hS ?_
          · intro w5 hSw
            clear hSw hS
            go_simp
          simp only [Act.put, List.setIfInBounds_toArray, List.set_cons_zero, List.set_cons_succ]
          clear hS
          refine wpAnyH_done (by kernel_rfl) ?_ _
          go_wp2
          go_roundw
          all_goals first
            | exact ⟨i + 1, by go_num, by omega, q + 1, ax2, cx2, rfl, by omega, Hid.of ⟨HO7.out, HU7.out, HL7.out⟩⟩
            | (simp [intOf]; omega)
    · have hilz : ¬ (i : Int) < (fs.length : Int) := by omega
      have HTk := Hid.of (show fs.take i = fs from List.take_of_length_le (by omega))
      rw [HTk.out] at HQ
      by_cases hl0 : 0 ≤ len
      · have HTl := Hid.of (show tld fs len = pfs fs ++ [lnf len.toNat] by unfold tld; rw [if_pos hl0])
        have HLf := Hid.of (show vs (Go.Lib.itoa len) = .string (lnf len.toNat).v by unfold lnf; rw [Int.toNat_of_nonneg hl0])
        go_wp2_with fail
        refine (Itoa_walk len (by omega) (by omega) wr (HGn.out.up HQ.out.2.1)).mono ?_
        rintro e w3 ⟨rfl, h9⟩
        have HU3 := Hid.of (HQ.out.2.1.trans h9)
        have HO3 := Hid.of (ow_up HQ.out.1 h9)
        clear h9
        rw [HLf.out]
        dsimp only
        go_wp2_with (with_reducible show wpList _ _ _ ({ dst := _, op := Op.call { callee := Callee.builtin Builtin.append, args := _, argTypes := _ }, type := _, pos := _, after := _, guard := _ } :: _) _ _; refine Shut.out ?_)
        show wpList _ _ _ _ _ _
        refine wpList_appFd (w := w3) (N := w.heap.size) rfl _ _ rfl a7 c7 (pfs fs) (lnf len.toNat) HQ.out.2.2 rfl rfl HO3.out HU3.out.size (by omega) ?_
        intro a4 c4 w4 o4 u4 _
        have HU4 := Hid.of (u4 w HU3.out (Nat.le_refl _))
        have HO4 := Hid.of o4
        clear o4 u4
        simp only [Act.put, List.setIfInBounds_toArray, List.set_cons_zero, List.set_cons_succ]
        go_wp2
        go_ret
        rw [HTl.out]
        exact ⟨⟨a4, c4, by rw [List.length_append, HQ.out.2.2]; rfl, Hid.of HO4.out⟩, HU4.out⟩
      · have HTl := Hid.of (show tld fs len = pfs fs by unfold tld; rw [if_neg hl0])
        go_wp2
        go_ret
        rw [HTl.out]
        exact ⟨⟨a7, c7, by rw [HQ.out.2.2]; rfl, Hid.of HQ.out.1⟩, HQ.out.2.1⟩
end Go.Proofs.YtbgjnghjddcooaaGreatDoor
namespace Go.Proofs.YtbgjnghjddcooaaGreatDoor
open Go.RowKit Go.Shelf TextNum
/-- bytes that are read are appended -/
theorem wpList_appSb2 {w : World} {N q : Nat} {ops : Array Oper} {rest : List Oper} {o : Oper} {a : Act} {Q : Exit → Act → World → Prop} (hgd : o.guard = none) (x y : Operand)
    (ho : o.op = .call { callee := .builtin .append, args := #[x, y], argTypes := #[22, 22] }) (ax : Option Addr) (cx : Nat) (xs : List UInt8) (vy : Value) (ds : List UInt8) (hx : a.eval x = .slice ax q cx) (hy : a.eval y = vy) (hSb : Sb w vy ds)
    (hR : w.ownsRow N 5 1 (.slice ax q cx) q (cb xs)) (hNw : N ≤ w.heap.size) (hql : q + ds.length ≤ 1099511627776)
    (K : ∀ ax2 cx2 w', w'.ownsRow N 5 1 (.slice ax2 (q + ds.length) cx2) (q + ds.length) (cb (xs ++ ds)) → (∀ W, Up W w → W.heap.size ≤ N → Up W w') → w.grownBy w' (Value.slice ax q cx).ownBlock → wpList Tryz.prog ops Q rest (a.put o.dst (.slice ax2 (q + ds.length) cx2)) w') :
    wpList Tryz.prog ops Q (o :: rest) a w := by
  obtain ⟨i0, hi0, hz0, hz1, hz2⟩ := info_parts Tryz.infoU8
  obtain ⟨ay, cy, rfl, k1, k2, k3, k4⟩ := hSb
  cases ay with
  | none =>
    obtain ⟨rfl, rfl⟩ := k3 rfl
    refine wpList_plain hgd fun K2 hK => ?_
    have hr := run_app_none (ty := o.type) (c := 0) hR
    unfold Oper.wp execOp
    simp only [List.length_nil] at hy
    simp only [ho, resolve, invoke, builtin, Sem.run_bind, Sem.run_pure, Result.andThen_ok, List.map_toArray, List.map_cons, List.map_nil, hx, hy, hr]
    exact hK _ _ (K ax cx w (by rw [List.append_nil]; exact hR) (fun W hU _ => hU) (World.grownBy.refl _ _))
  | some ad =>
    refine wpList_append_frs hgd x y 22 ho N 5 i0 (.int .u8 0) 1 Tryz.underlying22 hi0 hz0 hz1 hz2 rfl _ q _ hx hR ad ds.length cy (cb ds) hy (by rw [cb_length]; omega) (k4 ad rfl).2 (cb_one ds) (by simp only [maxLen]; omega) (by omega) hNw ?_
    intro v8 w8 o8 g8 _
    obtain ⟨a4, c4, rfl⟩ := row_len o8
    exact K a4 c4 w8 (by rw [cb_append]; exact o8) (fun W hU hW => up_grownBy hU g8 (fun g hg => Nat.le_trans hW (World.ownsRow.lt hR g hg).1)) g8
theorem tld_frF (fs : List FD) (n : Nat) : tld fs (if n = 0 then -1 else (n : Int)) = frF fs n := by
  unfold tld frF
  by_cases h : n = 0
  · rw [if_pos h, if_neg (by decide), if_neg (by omega)]
  · rw [if_neg h, if_pos (by omega), if_pos (by omega), Int.toNat_natCast]
theorem frQ_er {m t : ByteArray} {mi : Int} {fs : List FD} {bd : List UInt8} {k : Nat} (h : frQ m t mi fs bd = .error k) : (nums k != 0) = true := by
  have hk : k < 12 := by
    unfold frQ at h
    cases hc : ckq m t mi (frF fs bd.length) bd.length with
    | some j => rw [hc] at h; injection h with h; rw [← h]; exact ckq_lt hc
    | none => rw [hc] at h; cases h
  have : ∀ k, k < 12 → (nums k != 0) = true := by decide +kernel
  exact this k hk
theorem frQ_ok {m t : ByteArray} {mi : Int} {fs : List FD} {bd l : List UInt8} (h : frQ m t mi fs bd = .ok l) : ckq m t mi (frF fs bd.length) bd.length = none ∧ l = prt (frS m t mi) (frF fs bd.length) bd := by
  unfold frQ at h
  cases hc : ckq m t mi (frF fs bd.length) bd.length with
  | some j => rw [hc] at h; cases h
  | none => rw [hc] at h; injection h with h; exact ⟨rfl, h.symm⟩
theorem prt_len {st : List UInt8} {F : List FD} {bd : List UInt8} : (prt st F bd).length = st.length + 2 + szs F + bd.length := by
  have h1 := lbs_len F
  simp only [prt, List.length_append, List.length_cons, List.length_nil]
  omega
set_option maxRecDepth 100000 in
set_option maxHeartbeats 8000000 in
theorem whole_walk (ad : Nat → Addr) (m t : ByteArray) (mi : Int) (an : Option Addr) (ns : List ByteArray) (cn : Nat) (av : Option Addr) (us : List ByteArray) (cv : Nat) (ab : Option Addr) (nb cb' : Nat) (bd : List UInt8) (pad : Int) (ax : Option Addr) (nx cx : Nat) (tl : List UInt8) (at' : Int) (w : World) (hN : StL w an ns cn) (hV : StL w av us cv) (hB : Sb w (.slice ab nb cb') bd) (hT : Sb w (.slice ax nx cx) tl) (hW : GW w ad)
    (hm : m.size ≤ 1099511627776) (ht : t.size ≤ 1099511627776) (hm0 : -9223372036854775808 ≤ mi) (hm1 : mi ≤ 9223372036854775807) (hnl : ns.length ≤ 1048576) (hbl : bd.length ≤ 1048576) (htl : tl.length ≤ 1048576) (hz : szs (mkF ns us) ≤ 1099511627000) :
    Calls Tryz.prog 7 #[.agg #[.string m, .string t, .int .i64 mi, .slice an ns.length cn, .slice av us.length cv, .slice ab nb cb', .int .i64 pad], .slice ax nx cx, .int .i64 at'] w fun e w' => e = .returned (.bool true) ∧ Up w w' := by
  have HN := Hid.of hN
  have HV := Hid.of hV
  have HB := Hid.of hB
  have HT := Hid.of hT
  have HW := Hid.of hW
  obtain ⟨hbn, hbc, hbm⟩ := hB.len
  obtain ⟨htn, htc, htm⟩ := hT.len
  unfold maxLen at hbm htm
  have HBn := Hid.of hbn.symm
  have HTn := Hid.of htn.symm
  have hnb : nb ≤ 1048576 := by omega
  have hnx : nx ≤ 1048576 := by omega
  clear hN hV hB hT hW hbn htn
  obtain ⟨F, hF⟩ : ∃ F, mkF ns us = F := ⟨_, rfl⟩
  have HFl := Hid.of (show F.length = ns.length by rw [← hF, mkF_len])
  rw [hF] at hz
  have HFe := Hid.of hF
  clear hF
  have HA0 := Hid.of (at_new w 52 [.string m, .string t, .int .i64 mi, .slice an ns.length cn, .slice av us.length cv, .slice ab nb cb', .int .i64 pad])
  have HU0 := Hid.of ((Up.refl w).alloc (.cells [.string m, .string t, .int .i64 mi, .slice an ns.length cn, .slice av us.length cv, .slice ab nb cb', .int .i64 pad].toArray 52))
  go_enter Tryz.func7, Tryz.ntmps7
  go_wp2_with fail
  obtain ⟨w1, hw1⟩ : ∃ w1, w.alloc (.cells [.string m, .string t, .int .i64 mi, .slice an ns.length cn, .slice av us.length cv, .slice ab nb cb', .int .i64 pad].toArray 52) = w1 := ⟨_, rfl⟩
  rw [hw1] at HA0 HU0
  change Calls _ _ _ (w.alloc (.cells [.string m, .string t, .int .i64 mi, .slice an ns.length cn, .slice av us.length cv, .slice ab nb cb', .int .i64 pad].toArray 52)) _
  rw [hw1]
  clear hw1
  refine (known_walk ad w1 (HW.out.up HU0.out)).mono ?_
  rintro e w2 ⟨rfl, h9⟩
  have HU2 := Hid.of (HU0.out.trans h9)
  have HA2 := Hid.of (HA0.out.up h9)
  clear h9
  dsimp only
  have k6 := HA2.out.cell (i := 6) rfl
  have f6 := HA2.out.thaw 6
  have HU3a := Hid.of (HU2.out.by (grown_set1 w2 w.heap.size 6 (.int .i64 0)) (fun g hg => by have := Option.some.inj hg; omega))
  have HA3a := Hid.of (show At (w2.setCell ⟨w.heap.size, 6, none⟩ (.int .i64 0)) w.heap.size 52 [.string m, .string t, .int .i64 mi, .slice an ns.length cn, .slice av us.length cv, .slice ab nb cb', .int .i64 0] from HA2.out.set 6 (.int .i64 0))
  go_wp2_with (with_reducible show wpList _ _ _ ({ dst := _, op := Op.load 52 _, type := _, pos := _, after := _, guard := _ } :: _) _ _; refine Shut.out ?_)
  show wpList _ _ _ _ _ _
  obtain ⟨w3, hw3⟩ : ∃ w3, w2.setCell ⟨w.heap.size, 6, none⟩ (.int .i64 0) = w3 := ⟨_, rfl⟩
  rw [hw3] at HA3a HU3a
  change wpList _ _ _ _ _ (w2.setCell ⟨w.heap.size, 6, none⟩ (.int .i64 0))
  rw [hw3]
  clear hw3 k6 f6
  refine wpList_load_mid rfl _ _ rfl w.heap.size 0 rfl [.string m, .string t, .int .i64 mi, .slice an ns.length cn, .slice av us.length cv, .slice ab nb cb', .int .i64 0] _ HA3a.out.range Tryz.underlying52 rfl (by kernel_rfl) ?_
  simp only [Act.put, List.setIfInBounds_toArray, List.set_cons_zero, List.set_cons_succ]
  go_wp2_with fail
  refine (request_walk m t mi an ns cn av us cv ab nb cb' bd 0 w3 (HN.out.up HU3a.out) (HV.out.up HU3a.out) (HB.out.up HU3a.out) hnl hbl).mono ?_
  rintro e w4 ⟨⟨aF, cF, vF, rfl, hO⟩, h9⟩
  have hpd : pdd bd 0 = bd := by unfold pdd; simp
  rw [hpd, HFe.out] at hO
  obtain ⟨aR, cR, rfl⟩ := row_len hO.out.2
  rw [HBn.out]
  have HU4 := Hid.of (HU3a.out.trans h9)
  have HA4 := Hid.of (HA3a.out.up h9)
  have HF4 := Hid.of (FdO.fdl hO.out.1)
  have HB4 := Hid.of (Ow.sb hO.out.2)
  rw [HBn.out] at HB4
  clear hO h9 hpd
  obtain ⟨nF, hnF⟩ : ∃ nF, ns.length = nF := ⟨_, rfl⟩
  have HNF := Hid.of (show F.length = nF by rw [HFl.out]; exact hnF)
  have hnFl : nF ≤ 1048576 := by omega
  have HNs := Hid.of hnF
  dsimp only
  rw [hnF]
  clear hnF
  go_wp2_with (with_reducible show wpList _ _ _ ({ dst := _, op := Op.load 27 _, type := _, pos := _, after := _, guard := _ } :: _) _ _; refine Shut.out ?_)
  show wpList _ _ _ _ _ _
  obtain ⟨w5, hw5⟩ : ∃ w5, w4.alloc (.cells #[.string m, .string t, .int .i64 mi, .slice aF nF cF, .slice aR nb cR, .bool false] 27) = w5 := ⟨_, rfl⟩
  have HU5 := Hid.of (show Up w w5 by rw [← hw5]; exact HU4.out.alloc _)
  have HR5 := Hid.of (show At w5 w4.heap.size 27 [.string m, .string t, .int .i64 mi, .slice aF nF cF, .slice aR nb cR, .bool false] by rw [← hw5]; exact at_new w4 27 [.string m, .string t, .int .i64 mi, .slice aF nF cF, .slice aR nb cR, .bool false])
  have Hu5 := Hid.of (show Up w4 w5 by rw [← hw5]; exact (Up.refl w4).alloc _)
  change wpList _ _ _ _ _ (w4.alloc (.cells #[.string m, .string t, .int .i64 mi, .slice aF nF cF, .slice aR nb cR, .bool false] 27))
  rw [hw5]
  clear hw5
  have HQ5 := Hid.of (HA4.out.up Hu5.out)
  have HF5 := Hid.of (HF4.out.up Hu5.out)
  have HB5 := Hid.of (HB4.out.up Hu5.out)
  have HFR := Hid.of (FormatRequest_walk ad m t mi aF F cF aR nb cR bd false w5 HF5.out HB5.out (HW.out.up HU5.out) hm ht hm0 hm1 hz (by omega))
  refine wpList_load_mid rfl _ _ rfl w4.heap.size 0 rfl [.string m, .string t, .int .i64 mi, .slice aF nF cF, .slice aR nb cR, .bool false] _ HR5.out.range Tryz.underlying27 rfl (by kernel_rfl) ?_
  simp only [Act.put, List.setIfInBounds_toArray, List.set_cons_zero, List.set_cons_succ]
  rw [HNF.out] at HFR
  go_wp2_with fail
  refine HFR.out.mono ?_
  rintro e w6 ⟨hR, h9⟩
  have HU6 := Hid.of (HU5.out.trans h9)
  have Hk6 := Hid.of h9
  have HR6 := Hid.of (HR5.out.up h9)
  have HQ6 := Hid.of (HQ5.out.up h9)
  have HF6 := Hid.of (HF5.out.up h9)
  have HB6 := Hid.of (HB5.out.up h9)
  clear h9 HFR
  cases hq : frQ m t mi F bd with
  | error k =>
    rw [hq] at hR
    have hne := frQ_er hq
    obtain rfl := hR
    clear hq
    dsimp only
    go_wp2
    go_ret
    exact ⟨rfl, HU6.out⟩
  | ok l =>
    rw [hq] at hR
    obtain ⟨a8, c8, rfl, hO8⟩ := hR
    obtain ⟨hck, hl⟩ := frQ_ok hq
    have hcko := ckq_ok hck
    have hfl := ckf_none (ckq_none hck).2.2.2.2.1
    have hll : l.length ≤ 1099511 := by
      rw [hl, prt_len, frS_len]
      omega
    have HP0 := Hid.of (show rqP l = .ok ((⟨m.data.toList, t.data.toList, mi, frF F bd.length⟩, bd), l.length) by
      have h1 := rqP_prt hck []
      rw [List.append_nil, ← hl] at h1
      exact h1)
    have HPt := Hid.of (show rqP (l ++ tl) = .ok ((⟨m.data.toList, t.data.toList, mi, frF F bd.length⟩, bd), l.length) by
      have h1 := rqP_prt hck tl
      rw [← hl] at h1
      exact h1)
    clear hq hl hck hcko
    obtain ⟨FF, hFF⟩ : ∃ FF, frF F bd.length = FF := ⟨_, rfl⟩
    have HFF := Hid.of hFF
    rw [hFF] at HP0 HPt hfl
    clear hFF
    obtain ⟨nP, hnP⟩ : ∃ nP, FF.length = nP := ⟨_, rfl⟩
    have HNPx := Hid.of hnP
    have hnP64 : nP ≤ 64 := by rw [← hnP]; exact hfl.1
    clear hfl hnP
    have hl0 : 0 < l.length := by
      rcases Nat.eq_zero_or_pos l.length with h | h
      · exfalso
        have h1 := HP0.out
        rw [List.eq_nil_of_length_eq_zero h] at h1
        revert h1
        have : rqP [] = .error 2 := rfl
        rw [this]
        intro h2
        cases h2
      · exact h
    have HPre := Hid.of (fun i (hi : i < l.length) => rqP_pre HP0.out hi)
    obtain ⟨L, hL⟩ : ∃ L, l.length = L := ⟨_, rfl⟩
    have HL := Hid.of hL
    have HO8 := Hid.of hO8.out
    have HS8 := Hid.of (Ow.sb hO8.out)
    rw [hL] at HO8 HS8 HPre HP0 HPt hl0 hll ⊢
    clear hL hO8
    have hL40 : L ≤ 1099511627776 := by omega
    dsimp only
    have k4 := HR6.out.cell (i := 4) rfl
    have HBr := Hid.of (fun (w2 : World) (hu : Up w6 w2) => HB6.out.up hu)
    have HSh := Hid.of (fun (w2 : World) (hu : Up w6 w2) => short_walk ad at' hL40 hl0 w2 (HS8.out.up hu) (HW.out.up (HU6.out.trans hu)) HPre.out)
    by_cases hb0 : nb = 0
    · have hb0z : ((nb : Int) == 0) = true := by rw [hb0]; rfl
      have HTF := Hid.of (show tld F (-1) = FF by have h1 := tld_frF F bd.length; rw [HBn.out, if_pos hb0, ← HBn.out, HFF.out] at h1; exact h1)
      clear hb0
      go_wp2_with fail
      refine (ParseRequest_walk ad hL40 w6 HS8.out (HW.out.up HU6.out)).mono ?_
      rintro e w7 ⟨hR7, h9⟩
      rw [HP0.out] at hR7
      obtain ⟨aP, cP, vP, rfl, hO7⟩ := hR7
      have HU7 := Hid.of (HU6.out.trans h9)
      have Hk7 := Hid.of h9
      have HR7 := Hid.of (HR6.out.up h9)
      have HQ7 := Hid.of (HQ6.out.up h9)
      obtain ⟨aB, cB, rfl⟩ := row_len hO7.out.2
      have HF7 := Hid.of hO7.out.1
      have HB7 := Hid.of hO7.out.2
      clear hO7 h9
      unfold rqV
      dsimp only at HF7 HB7 ⊢
      rw [vs_data', vs_data', HNPx.out, HBn.out]
      rw [HBn.out] at HB7
      obtain ⟨cl, hcl⟩ : ∃ cl, cls (mi == 0) FF = cl := ⟨_, rfl⟩
      have HCl := Hid.of hcl
      rw [hcl]
      clear hcl
      obtain ⟨w8, hw8⟩ : ∃ w8, w7.alloc (.cells #[.string m, .string t, .int .i64 mi, .slice aP nP cP, .slice aB nb cB, .bool cl] 27) = w8 := ⟨_, rfl⟩
      have HU8 := Hid.of (show Up w w8 by rw [← hw8]; exact HU7.out.alloc _)
      have HP8 := Hid.of (show At w8 w7.heap.size 27 [.string m, .string t, .int .i64 mi, .slice aP nP cP, .slice aB nb cB, .bool cl] by rw [← hw8]; exact at_new w7 27 [.string m, .string t, .int .i64 mi, .slice aP nP cP, .slice aB nb cB, .bool cl])
      have Hu8 := Hid.of (show Up w7 w8 by rw [← hw8]; exact (Up.refl w7).alloc _)
      have HR8 := Hid.of (HR7.out.up Hu8.out)
      have HQ8 := Hid.of (HQ7.out.up Hu8.out)
      have Hk8 := Hid.of (Hk7.out.trans Hu8.out)
      have HW8 := Hid.of hw8
      have HFp := Hid.of (fun (w2 : World) (hu : Up w8 w2) => FdO.fdl (ow_up HF7.out (Hu8.out.trans hu)))
      clear hw8
      have hcv1 := conv_sb2 (Ow.sb (ow_up HB7.out Hu8.out))
      have hcv2 := conv_sb2 ((HBr.out w8 Hk8.out))
      have p0 := HP8.out.cell (i := 0) rfl
      have p1 := HP8.out.cell (i := 1) rfl
      have p2 := HP8.out.cell (i := 2) rfl
      have p4 := HP8.out.cell (i := 4) rfl
      have q0 := HQ8.out.cell (i := 0) rfl
      have q1 := HQ8.out.cell (i := 1) rfl
      have q2 := HQ8.out.cell (i := 2) rfl
      have r4 := HR8.out.cell (i := 4) rfl
      rw [← HW8.out] at p0 p1 p2 p4 q0 q1 q2 r4 hcv1 hcv2
      go_wp2
      change Code.wp _ _ _ _ (w7.alloc (.cells #[.string m, .string t, .int .i64 mi, .slice aP nP cP, .slice aB nb cB, .bool cl] 27))
      rw [HW8.out]
      clear p0 p1 p2 p4 q0 q1 q2 r4 hcv1 hcv2 HW8
      have HTd := Hid.of (fun (w2 : World) (hu : Up w6 w2) => told_walk aF F cF (-1) w2 (HF6.out.up hu) (HW.out.up (HU6.out.trans hu)).gn (by omega) (by omega) (by omega))
      rw [HNF.out, HTF.out, HNPx.out] at HTd
      refine wp_region_held_drew (S := fun w2 => At w2 w7.heap.size 27 [.string m, .string t, .int .i64 mi, .slice aP nP cP, .slice aB nb cB, .bool cl] ∧ At w2 w4.heap.size 27 [.string m, .string t, .int .i64 mi, .slice aF nF cF, .slice aR nb cR, .bool false] ∧ Up w w2) (by kernel_rfl) ⟨HP8.out.up (Up.refl _).drew, HR8.out.up (Up.refl _).drew, HU8.out.drew⟩ (fun hS => ?_)
      refine wpAnyH_take (i := 0) (oi := { dst := some 81, op := Go.Op.fieldAddr 27 (Go.Operand.tmp 11) 3, type := 0, pos := "outright.go:106", after := #[], guard := none }) (v := .pointer (some ⟨w7.heap.size, 3, none⟩)) rfl (by kernel_rfl) (by kernel_rfl) (by kernel_rfl) (fun _ _ _ h => h) (Or.inl ⟨by kernel_rfl, ?_⟩) hS ?_
      · intro w5 hSw
        clear hSw hS
        go_simp
      simp only [Act.put, List.setIfInBounds_toArray, List.set_cons_zero, List.set_cons_succ]
      refine wpAnyH_take (i := 1) (oi := { dst := some 82, op := Go.Op.load 25 (Go.Operand.tmp 81), type := 25, pos := "outright.go:106", after := #[{ on := 0, ground := Go.Ground.data }], guard := none }) (v := .slice aP nP cP) rfl (by kernel_rfl) (by kernel_rfl) (by kernel_rfl) (fun _ _ _ h => h) (Or.inl ⟨by kernel_rfl, ?_⟩) hS ?_
      · intro w5 hSw
        have h0 := hSw.1.cell (i := 3) rfl
        clear hSw hS
        go_simp
      simp only [Act.put, List.setIfInBounds_toArray, List.set_cons_zero, List.set_cons_succ]
      refine wpAnyH_take (i := 2) (oi := { dst := some 83, op := Go.Op.fieldAddr 27 (Go.Operand.tmp 7) 3, type := 0, pos := "outright.go:106", after := #[], guard := none }) (v := .pointer (some ⟨w4.heap.size, 3, none⟩)) rfl (by kernel_rfl) (by kernel_rfl) (by kernel_rfl) (fun _ _ _ h => h) (Or.inl ⟨by kernel_rfl, ?_⟩) hS ?_
      · intro w5 hSw
        clear hSw hS
        go_simp
      simp only [Act.put, List.setIfInBounds_toArray, List.set_cons_zero, List.set_cons_succ]
      refine wpAnyH_take (i := 3) (oi := { dst := some 84, op := Go.Op.load 25 (Go.Operand.tmp 83), type := 25, pos := "outright.go:106", after := #[{ on := 2, ground := Go.Ground.data }], guard := none }) (v := .slice aF nF cF) rfl (by kernel_rfl) (by kernel_rfl) (by kernel_rfl) (fun _ _ _ h => h) (Or.inl ⟨by kernel_rfl, ?_⟩) hS ?_
      · intro w5 hSw
        have h0 := hSw.2.1.cell (i := 3) rfl
        clear hSw hS
        go_simp
      simp only [Act.put, List.setIfInBounds_toArray, List.set_cons_zero, List.set_cons_succ]
      refine wpAnyH_take (i := 4) (oi := { dst := some 85, op := Go.Op.move (Go.Operand.tmp 10), type := 3, pos := "outright.go:106", after := #[], guard := none }) (v := .int .i64 (-1)) rfl (by kernel_rfl) (by kernel_rfl) (by kernel_rfl) (fun _ _ _ h => h) (Or.inl ⟨by kernel_rfl, ?_⟩) hS ?_
      · intro w5 hSw
        clear hSw hS
        go_simp
      simp only [Act.put, List.setIfInBounds_toArray, List.set_cons_zero, List.set_cons_succ]
      refine wpAnyH_ready (rs := [5]) (by kernel_rfl) (by simp) ?_
      refine AllReadyH.cons (o := { dst := some 86, op := Go.Op.call { callee := Go.Callee.value (Go.Operand.func 23), args := #[Go.Operand.tmp 84, Go.Operand.tmp 85], argTypes := #[25, 3] }, type := 25, pos := "outright.go:106", after := #[{ on := 3, ground := Go.Ground.data }, { on := 4, ground := Go.Ground.data }], guard := none }) rfl (fun K hK => ?_) AllReadyH.nil
      rw [if_pos (by kernel_rfl)]
      go_simp
      refine (HTd.out w8.drew (Hk8.out.drew)).mono ?_
      rintro e w9 ⟨⟨a9, c9, rfl, hO9⟩, h9⟩
      have HU9 := Hid.of (HU8.out.drew.trans h9)
      have Hk9 := Hid.of (Hk8.out.drew.trans h9)
      have HT9 := Hid.of (FdO.fdl hO9.out)
      have Hu9 := Hid.of h9
      have Hv9 := Hid.of ((Up.refl w8).drew.trans h9)
      clear h9 hO9
      dsimp only
      refine hK.out _ _ ⟨hS.1.up Hu9.out, hS.2.1.up Hu9.out, HU9.out⟩ (fun hS => ?_)
      clear hK K
      refine wpAnyH_ready (rs := [6]) (by kernel_rfl) (by simp) ?_
      refine AllReadyH.cons (o := { dst := some 87, op := Go.Op.call { callee := Go.Callee.value (Go.Operand.func 15), args := #[Go.Operand.tmp 82, Go.Operand.tmp 86], argTypes := #[25, 25] }, type := 4, pos := "outright.go:106", after := #[{ on := 1, ground := Go.Ground.data }, { on := 5, ground := Go.Ground.data }, { on := 5, ground := Go.Ground.chain }], guard := none }) rfl (fun K hK => ?_) AllReadyH.nil
      rw [if_pos (by kernel_rfl)]
      go_simp
      refine (alike_same aP a9 FF cP c9 nP HNPx.out (by omega) w9 (HFp.out w9 Hv9.out) HT9.out).mono ?_
      rintro e w10 ⟨rfl, h9⟩
      have HU10 := Hid.of (HU9.out.trans h9)
      have Hk10 := Hid.of (Hk9.out.trans h9)
      have Hv10 := Hid.of (Hv9.out.trans h9)
      dsimp only
      refine hK.out _ _ ⟨hS.1.up h9, hS.2.1.up h9, HU10.out⟩ (fun hS => ?_)
      clear hK K h9
      refine wpAnyH_take (i := 7) (oi := { dst := some 88, op := Go.Op.unOp Go.UnOp.not 4 (Go.Operand.tmp 87), type := 4, pos := "outright.go:106", after := #[{ on := 6, ground := Go.Ground.data }], guard := none }) (v := .bool false) rfl (by kernel_rfl) (by kernel_rfl) (by kernel_rfl) (fun _ _ _ h => h) (Or.inl ⟨by kernel_rfl, ?_⟩) hS ?_
      · intro w5 hSw
        clear hSw hS
        go_simp
      simp only [Act.put, List.setIfInBounds_toArray, List.set_cons_zero, List.set_cons_succ]
      refine wpAnyH_take (i := 8) (oi := { dst := some 89, op := Go.Op.move (Go.Operand.tmp 88), type := 4, pos := "outright.go:106", after := #[{ on := 7, ground := Go.Ground.data }, { on := 6, ground := Go.Ground.chain }], guard := none }) (v := .bool false) rfl (by kernel_rfl) (by kernel_rfl) (by kernel_rfl) (fun _ _ _ h => h) (Or.inl ⟨by kernel_rfl, ?_⟩) hS ?_
      · intro w5 hSw
        clear hSw hS
        go_simp
      simp only [Act.put, List.setIfInBounds_toArray, List.set_cons_zero, List.set_cons_succ]
      refine wpAnyH_take (i := 9) (oi := { dst := some 90, op := Go.Op.move (Go.Operand.tmp 8), type := 22, pos := "outright.go:106", after := #[{ on := 8, ground := Go.Ground.guard }], guard := some (8, false) }) (v := .slice a8 L c8) rfl (by kernel_rfl) (by kernel_rfl) (by kernel_rfl) (fun _ _ _ h => h) (Or.inl ⟨by kernel_rfl, ?_⟩) hS ?_
      · intro w5 hSw
        clear hSw hS
        go_simp
      simp only [Act.put, List.setIfInBounds_toArray, List.set_cons_zero, List.set_cons_succ]
      refine wpAnyH_take (i := 10) (oi := { dst := some 91, op := Go.Op.move (Go.Operand.tmp 2), type := 3, pos := "outright.go:106", after := #[{ on := 8, ground := Go.Ground.guard }], guard := some (8, false) }) (v := .int .i64 at') rfl (by kernel_rfl) (by kernel_rfl) (by kernel_rfl) (fun _ _ _ h => h) (Or.inl ⟨by kernel_rfl, ?_⟩) hS ?_
      · intro w5 hSw
        clear hSw hS
        go_simp
      simp only [Act.put, List.setIfInBounds_toArray, List.set_cons_zero, List.set_cons_succ]
      refine wpAnyH_ready (rs := [11]) (by kernel_rfl) (by simp) ?_
      refine AllReadyH.cons (o := { dst := some 92, op := Go.Op.call { callee := Go.Callee.value (Go.Operand.func 24), args := #[Go.Operand.tmp 90, Go.Operand.tmp 91], argTypes := #[22, 3] }, type := 4, pos := "outright.go:106", after := #[{ on := 9, ground := Go.Ground.data }, { on := 10, ground := Go.Ground.data }, { on := 8, ground := Go.Ground.chain }, { on := 8, ground := Go.Ground.guard }], guard := some (8, false) }) rfl (fun K hK => ?_) AllReadyH.nil
      rw [if_pos (by kernel_rfl)]
      go_simp
      refine (HSh.out w10 Hk10.out).mono ?_
      rintro e w11 ⟨rfl, h9⟩
      have HU11 := Hid.of (HU10.out.trans h9)
      have Hk11 := Hid.of (Hk10.out.trans h9)
      have Hv11 := Hid.of (Hv10.out.trans h9)
      dsimp only
      have HP11 := Hid.of (hS.1.up h9)
      refine hK.out _ _ ⟨hS.1.up h9, hS.2.1.up h9, HU11.out⟩ (fun hS => ?_)
      clear hK K h9
      refine wpAnyH_take (i := 12) (oi := { dst := some 93, op := Go.Op.unOp Go.UnOp.not 4 (Go.Operand.tmp 92), type := 4, pos := "outright.go:106", after := #[{ on := 11, ground := Go.Ground.data }, { on := 8, ground := Go.Ground.guard }], guard := some (8, false) }) (v := .bool false) rfl (by kernel_rfl) (by kernel_rfl) (by kernel_rfl) (fun _ _ _ h => h) (Or.inl ⟨by kernel_rfl, ?_⟩) hS ?_
      · intro w5 hSw
        clear hSw hS
        go_simp
      simp only [Act.put, List.setIfInBounds_toArray, List.set_cons_zero, List.set_cons_succ]
      refine wpAnyH_take (i := 13) (oi := { dst := some 94, op := Go.Op.pick (Go.Operand.tmp 89) (Go.Operand.const (Go.Value.bool true)) (Go.Operand.tmp 93), type := 4, pos := "outright.go:106", after := #[{ on := 8, ground := Go.Ground.data }, { on := 12, ground := Go.Ground.data }], guard := none }) (v := .bool false) rfl (by kernel_rfl) (by kernel_rfl) (by kernel_rfl) (fun _ _ _ h => h) (Or.inl ⟨by kernel_rfl, ?_⟩) hS ?_
      · intro w5 hSw
        clear hSw hS
        go_simp
      simp only [Act.put, List.setIfInBounds_toArray, List.set_cons_zero, List.set_cons_succ]
      clear hS
      refine wpAnyH_done (by kernel_rfl) ?_ _
      go_wp2_with (with_reducible show wpList _ _ _ ({ dst := _, op := Op.call { callee := Callee.builtin Builtin.append, args := _, argTypes := _ }, type := _, pos := _, after := _, guard := _ } :: _) _ _; refine Shut.out ?_)
      show wpList _ _ _ _ _ _
      have HO11 := Hid.of (ow_up HO8.out Hk11.out)
      have HO11' := Hid.of (show w11.ownsRow w5.heap.size 5 1 (.slice a8 L c8) L (cb l) by have h1 := HO11.out; unfold Ow at h1; rw [HL.out] at h1; exact h1)
      refine wpList_appSb2 (N := w5.heap.size) rfl _ _ rfl a8 c8 l _ tl rfl rfl (HT.out.up HU11.out) HO11'.out (Hk6.out.trans Hk11.out).size (by omega) ?_
      intro a12 c12 w12 o12 u12 g12
      have HU12 := Hid.of (HU5.out.trans (u12 w5 (Hk6.out.trans Hk11.out) (Nat.le_refl _)))
      have HP12 := Hid.of (HP11.out.by g12 (own_ne HO11'.out HP11.out (by decide)))
      have HF12 := Hid.of (FdO.fdl (show FdO w12 w6.heap.size aP FF cP from World.ownsRow.kept (ow_up HF7.out (Hu8.out.trans Hv11.out)) g12 (own_off (ow_up HF7.out (Hu8.out.trans Hv11.out)) HO11'.out (by decide))))
      have HB12 := Hid.of (show Sb w12 (.slice aB nb cB) bd from Ow.sb (B := w6.heap.size) (World.ownsRow.kept (ow_up HB7.out (Hu8.out.trans Hv11.out)) g12 (by
        cases hv : (Value.slice aB nb cB).ownBlock with
        | none => exact .inl rfl
        | some g =>
          refine .inr (fun e => ?_)
          have h1 := (World.ownsRow.lt HB7.out g hv).1
          have h2 := (World.ownsRow.lt HO8.out g e.symm).2
          omega)))
      have HS12 := Hid.of (show Sb w12 (.slice a12 (L + tl.length) c12) (l ++ tl) from Ow.sb (B := w5.heap.size) (by
        unfold Ow
        rw [List.length_append, HL.out]
        exact o12))
      clear o12 u12 g12
      simp only [Act.put, List.setIfInBounds_toArray, List.set_cons_zero, List.set_cons_succ]
      go_wp2_with fail
      refine (padded_walk (.slice a12 (L + tl.length) c12) (l ++ tl) 0 (by rw [List.length_append, HL.out]; omega) w12 HS12.out).mono ?_
      rintro e w13 ⟨v13, rfl, hO13, h9⟩
      have hpd : pdd (l ++ tl) 0 = l ++ tl := by unfold pdd; simp
      rw [hpd] at hO13
      obtain ⟨a13, c13, rfl⟩ := row_len hO13
      have HS13 := Hid.of (Ow.sb hO13)
      have HU13 := Hid.of (HU12.out.trans h9)
      have Hk13 := Hid.of h9
      have hl13 : (l ++ tl).length ≤ 1099511627776 := by rw [List.length_append, HL.out]; omega
      clear h9 hO13 hpd
      generalize hN13 : (l ++ tl).length = N13 at HS13 hl13 ⊢
      clear hN13
      dsimp only
      go_wp2_with fail
      refine (ParseRequest_walk ad hl13 w13 HS13.out (HW.out.up HU13.out)).mono ?_
      rintro e w14 ⟨hR14, h9⟩
      rw [HPt.out] at hR14
      obtain ⟨aS, cS, vS, rfl, hO14⟩ := hR14
      obtain ⟨aC, cC, rfl⟩ := row_len hO14.out.2
      have HU14 := Hid.of (HU13.out.trans h9)
      have Hk14 := Hid.of (Hk13.out.trans h9)
      have HG14 := Hid.of (FdO.fdl hO14.out.1)
      have HC14 := Hid.of (Ow.sb hO14.out.2)
      clear h9 hO14
      unfold rqV
      dsimp only at HG14 HC14 ⊢
      rw [vs_data', vs_data', HNPx.out, HBn.out, HCl.out]
      rw [HBn.out] at HC14
      obtain ⟨w15, hw15⟩ : ∃ w15, w14.alloc (.cells #[.string m, .string t, .int .i64 mi, .slice aS nP cS, .slice aC nb cC, .bool cl] 27) = w15 := ⟨_, rfl⟩
      have HU15 := Hid.of (show Up w w15 by rw [← hw15]; exact HU14.out.alloc _)
      have HS15 := Hid.of (show At w15 w14.heap.size 27 [.string m, .string t, .int .i64 mi, .slice aS nP cS, .slice aC nb cC, .bool cl] by rw [← hw15]; exact at_new w14 27 [.string m, .string t, .int .i64 mi, .slice aS nP cS, .slice aC nb cC, .bool cl])
      have Hu15 := Hid.of (show Up w14 w15 by rw [← hw15]; exact (Up.refl w14).alloc _)
      have HP15 := Hid.of (HP12.out.up (Hk14.out.trans Hu15.out))
      have HF15 := Hid.of (HF12.out.up (Hk14.out.trans Hu15.out))
      have HB15 := Hid.of (HB12.out.up (Hk14.out.trans Hu15.out))
      have HG15 := Hid.of (HG14.out.up Hu15.out)
      have HC15 := Hid.of (HC14.out.up Hu15.out)
      have HW15 := Hid.of hw15
      clear hw15
      have y1 : ((L : Int) == (L : Int)) = true := by simp
      have HTw := Hid.of (twins_same m t mi FF nP cl aS aP cS cP (.slice aC nb cC) (.slice aB nb cB) bd HNPx.out (by omega) w15 HG15.out HF15.out HC15.out HB15.out)
      go_wp2_with (with_reducible show wpList _ _ _ ({ dst := _, op := Op.load 27 _, type := _, pos := _, after := _, guard := _ } :: _) _ _; refine Shut.out ?_)
      show wpList _ _ _ _ _ _
      change wpList _ _ _ _ _ (w14.alloc (.cells #[.string m, .string t, .int .i64 mi, .slice aS nP cS, .slice aC nb cC, .bool cl] 27))
      rw [HW15.out]
      refine wpList_valG (.agg ([.string m, .string t, .int .i64 mi, .slice aS nP cS, .slice aC nb cC, .bool cl] : List Value).toArray) (by kernel_rfl) (exec_load6 rfl rfl HS15.out.range) ?_
      simp only [Act.put, List.setIfInBounds_toArray, List.set_cons_zero, List.set_cons_succ]
      go_wp2_with (with_reducible show wpList _ _ _ ({ dst := _, op := Op.load 27 _, type := _, pos := _, after := _, guard := _ } :: _) _ _; refine Shut.out ?_)
      show wpList _ _ _ _ _ _
      refine wpList_valG (.agg ([.string m, .string t, .int .i64 mi, .slice aP nP cP, .slice aB nb cB, .bool cl] : List Value).toArray) (by kernel_rfl) (exec_load6 rfl rfl HP15.out.range) ?_
      simp only [Act.put, List.setIfInBounds_toArray, List.set_cons_zero, List.set_cons_succ]
      go_wp2_with fail
      refine HTw.out.mono ?_
      rintro e wk ⟨rfl, uk⟩
      have HUk := Hid.of (HU15.out.trans uk)
      clear uk
      dsimp only
      go_wp2
      go_ret
      exact ⟨rfl, HUk.out⟩
    · have hb0z : ((nb : Int) == 0) = false := by rw [beq_eq_false_iff_ne]; omega
      have HTF := Hid.of (show tld F (nb : Int) = FF by have h1 := tld_frF F bd.length; rw [HBn.out, if_neg hb0, ← HBn.out, HFF.out, HBn.out] at h1; exact h1)
      clear hb0
      go_wp2_with fail
      refine (ParseRequest_walk ad hL40 w6 HS8.out (HW.out.up HU6.out)).mono ?_
      rintro e w7 ⟨hR7, h9⟩
      rw [HP0.out] at hR7
      obtain ⟨aP, cP, vP, rfl, hO7⟩ := hR7
      have HU7 := Hid.of (HU6.out.trans h9)
      have Hk7 := Hid.of h9
      have HR7 := Hid.of (HR6.out.up h9)
      have HQ7 := Hid.of (HQ6.out.up h9)
      obtain ⟨aB, cB, rfl⟩ := row_len hO7.out.2
      have HF7 := Hid.of hO7.out.1
      have HB7 := Hid.of hO7.out.2
      clear hO7 h9
      unfold rqV
      dsimp only at HF7 HB7 ⊢
      rw [vs_data', vs_data', HNPx.out, HBn.out]
      rw [HBn.out] at HB7
      obtain ⟨cl, hcl⟩ : ∃ cl, cls (mi == 0) FF = cl := ⟨_, rfl⟩
      have HCl := Hid.of hcl
      rw [hcl]
      clear hcl
      obtain ⟨w8, hw8⟩ : ∃ w8, w7.alloc (.cells #[.string m, .string t, .int .i64 mi, .slice aP nP cP, .slice aB nb cB, .bool cl] 27) = w8 := ⟨_, rfl⟩
      have HU8 := Hid.of (show Up w w8 by rw [← hw8]; exact HU7.out.alloc _)
      have HP8 := Hid.of (show At w8 w7.heap.size 27 [.string m, .string t, .int .i64 mi, .slice aP nP cP, .slice aB nb cB, .bool cl] by rw [← hw8]; exact at_new w7 27 [.string m, .string t, .int .i64 mi, .slice aP nP cP, .slice aB nb cB, .bool cl])
      have Hu8 := Hid.of (show Up w7 w8 by rw [← hw8]; exact (Up.refl w7).alloc _)
      have HR8 := Hid.of (HR7.out.up Hu8.out)
      have HQ8 := Hid.of (HQ7.out.up Hu8.out)
      have Hk8 := Hid.of (Hk7.out.trans Hu8.out)
      have HW8 := Hid.of hw8
      have HFp := Hid.of (fun (w2 : World) (hu : Up w8 w2) => FdO.fdl (ow_up HF7.out (Hu8.out.trans hu)))
      clear hw8
      have hcv1 := conv_sb2 (Ow.sb (ow_up HB7.out Hu8.out))
      have hcv2 := conv_sb2 ((HBr.out w8 Hk8.out))
      have p0 := HP8.out.cell (i := 0) rfl
      have p1 := HP8.out.cell (i := 1) rfl
      have p2 := HP8.out.cell (i := 2) rfl
      have p4 := HP8.out.cell (i := 4) rfl
      have q0 := HQ8.out.cell (i := 0) rfl
      have q1 := HQ8.out.cell (i := 1) rfl
      have q2 := HQ8.out.cell (i := 2) rfl
      have r4 := HR8.out.cell (i := 4) rfl
      rw [← HW8.out] at p0 p1 p2 p4 q0 q1 q2 r4 hcv1 hcv2
      go_wp2
      change Code.wp _ _ _ _ (w7.alloc (.cells #[.string m, .string t, .int .i64 mi, .slice aP nP cP, .slice aB nb cB, .bool cl] 27))
      rw [HW8.out]
      clear p0 p1 p2 p4 q0 q1 q2 r4 hcv1 hcv2 HW8
      have HTd := Hid.of (fun (w2 : World) (hu : Up w6 w2) => told_walk aF F cF (nb : Int) w2 (HF6.out.up hu) (HW.out.up (HU6.out.trans hu)).gn (by omega) (by omega) (by omega))
      rw [HNF.out, HTF.out, HNPx.out] at HTd
      refine wp_region_held_drew (S := fun w2 => At w2 w7.heap.size 27 [.string m, .string t, .int .i64 mi, .slice aP nP cP, .slice aB nb cB, .bool cl] ∧ At w2 w4.heap.size 27 [.string m, .string t, .int .i64 mi, .slice aF nF cF, .slice aR nb cR, .bool false] ∧ Up w w2) (by kernel_rfl) ⟨HP8.out.up (Up.refl _).drew, HR8.out.up (Up.refl _).drew, HU8.out.drew⟩ (fun hS => ?_)
      refine wpAnyH_take (i := 0) (oi := { dst := some 81, op := Go.Op.fieldAddr 27 (Go.Operand.tmp 11) 3, type := 0, pos := "outright.go:106", after := #[], guard := none }) (v := .pointer (some ⟨w7.heap.size, 3, none⟩)) rfl (by kernel_rfl) (by kernel_rfl) (by kernel_rfl) (fun _ _ _ h => h) (Or.inl ⟨by kernel_rfl, ?_⟩) hS ?_
      · intro w5 hSw
        clear hSw hS
        go_simp
      simp only [Act.put, List.setIfInBounds_toArray, List.set_cons_zero, List.set_cons_succ]
      refine wpAnyH_take (i := 1) (oi := { dst := some 82, op := Go.Op.load 25 (Go.Operand.tmp 81), type := 25, pos := "outright.go:106", after := #[{ on := 0, ground := Go.Ground.data }], guard := none }) (v := .slice aP nP cP) rfl (by kernel_rfl) (by kernel_rfl) (by kernel_rfl) (fun _ _ _ h => h) (Or.inl ⟨by kernel_rfl, ?_⟩) hS ?_
      · intro w5 hSw
        have h0 := hSw.1.cell (i := 3) rfl
        clear hSw hS
        go_simp
      simp only [Act.put, List.setIfInBounds_toArray, List.set_cons_zero, List.set_cons_succ]
      refine wpAnyH_take (i := 2) (oi := { dst := some 83, op := Go.Op.fieldAddr 27 (Go.Operand.tmp 7) 3, type := 0, pos := "outright.go:106", after := #[], guard := none }) (v := .pointer (some ⟨w4.heap.size, 3, none⟩)) rfl (by kernel_rfl) (by kernel_rfl) (by kernel_rfl) (fun _ _ _ h => h) (Or.inl ⟨by kernel_rfl, ?_⟩) hS ?_
      · intro w5 hSw
        clear hSw hS
        go_simp
      simp only [Act.put, List.setIfInBounds_toArray, List.set_cons_zero, List.set_cons_succ]
      refine wpAnyH_take (i := 3) (oi := { dst := some 84, op := Go.Op.load 25 (Go.Operand.tmp 83), type := 25, pos := "outright.go:106", after := #[{ on := 2, ground := Go.Ground.data }], guard := none }) (v := .slice aF nF cF) rfl (by kernel_rfl) (by kernel_rfl) (by kernel_rfl) (fun _ _ _ h => h) (Or.inl ⟨by kernel_rfl, ?_⟩) hS ?_
      · intro w5 hSw
        have h0 := hSw.2.1.cell (i := 3) rfl
        clear hSw hS
        go_simp
      simp only [Act.put, List.setIfInBounds_toArray, List.set_cons_zero, List.set_cons_succ]
      refine wpAnyH_take (i := 4) (oi := { dst := some 85, op := Go.Op.move (Go.Operand.tmp 10), type := 3, pos := "outright.go:106", after := #[], guard := none }) (v := .int .i64 (nb : Int)) rfl (by kernel_rfl) (by kernel_rfl) (by kernel_rfl) (fun _ _ _ h => h) (Or.inl ⟨by kernel_rfl, ?_⟩) hS ?_
      · intro w5 hSw
        clear hSw hS
        go_simp
      simp only [Act.put, List.setIfInBounds_toArray, List.set_cons_zero, List.set_cons_succ]
      refine wpAnyH_ready (rs := [5]) (by kernel_rfl) (by simp) ?_
      refine AllReadyH.cons (o := { dst := some 86, op := Go.Op.call { callee := Go.Callee.value (Go.Operand.func 23), args := #[Go.Operand.tmp 84, Go.Operand.tmp 85], argTypes := #[25, 3] }, type := 25, pos := "outright.go:106", after := #[{ on := 3, ground := Go.Ground.data }, { on := 4, ground := Go.Ground.data }], guard := none }) rfl (fun K hK => ?_) AllReadyH.nil
      rw [if_pos (by kernel_rfl)]
      go_simp
      refine (HTd.out w8.drew (Hk8.out.drew)).mono ?_
      rintro e w9 ⟨⟨a9, c9, rfl, hO9⟩, h9⟩
      have HU9 := Hid.of (HU8.out.drew.trans h9)
      have Hk9 := Hid.of (Hk8.out.drew.trans h9)
      have HT9 := Hid.of (FdO.fdl hO9.out)
      have Hu9 := Hid.of h9
      have Hv9 := Hid.of ((Up.refl w8).drew.trans h9)
      clear h9 hO9
      dsimp only
      refine hK.out _ _ ⟨hS.1.up Hu9.out, hS.2.1.up Hu9.out, HU9.out⟩ (fun hS => ?_)
      clear hK K
      refine wpAnyH_ready (rs := [6]) (by kernel_rfl) (by simp) ?_
      refine AllReadyH.cons (o := { dst := some 87, op := Go.Op.call { callee := Go.Callee.value (Go.Operand.func 15), args := #[Go.Operand.tmp 82, Go.Operand.tmp 86], argTypes := #[25, 25] }, type := 4, pos := "outright.go:106", after := #[{ on := 1, ground := Go.Ground.data }, { on := 5, ground := Go.Ground.data }, { on := 5, ground := Go.Ground.chain }], guard := none }) rfl (fun K hK => ?_) AllReadyH.nil
      rw [if_pos (by kernel_rfl)]
      go_simp
      refine (alike_same aP a9 FF cP c9 nP HNPx.out (by omega) w9 (HFp.out w9 Hv9.out) HT9.out).mono ?_
      rintro e w10 ⟨rfl, h9⟩
      have HU10 := Hid.of (HU9.out.trans h9)
      have Hk10 := Hid.of (Hk9.out.trans h9)
      have Hv10 := Hid.of (Hv9.out.trans h9)
      dsimp only
      refine hK.out _ _ ⟨hS.1.up h9, hS.2.1.up h9, HU10.out⟩ (fun hS => ?_)
      clear hK K h9
      refine wpAnyH_take (i := 7) (oi := { dst := some 88, op := Go.Op.unOp Go.UnOp.not 4 (Go.Operand.tmp 87), type := 4, pos := "outright.go:106", after := #[{ on := 6, ground := Go.Ground.data }], guard := none }) (v := .bool false) rfl (by kernel_rfl) (by kernel_rfl) (by kernel_rfl) (fun _ _ _ h => h) (Or.inl ⟨by kernel_rfl, ?_⟩) hS ?_
      · intro w5 hSw
        clear hSw hS
        go_simp
      simp only [Act.put, List.setIfInBounds_toArray, List.set_cons_zero, List.set_cons_succ]
      refine wpAnyH_take (i := 8) (oi := { dst := some 89, op := Go.Op.move (Go.Operand.tmp 88), type := 4, pos := "outright.go:106", after := #[{ on := 7, ground := Go.Ground.data }, { on := 6, ground := Go.Ground.chain }], guard := none }) (v := .bool false) rfl (by kernel_rfl) (by kernel_rfl) (by kernel_rfl) (fun _ _ _ h => h) (Or.inl ⟨by kernel_rfl, ?_⟩) hS ?_
      · intro w5 hSw
        clear hSw hS
        go_simp
      simp only [Act.put, List.setIfInBounds_toArray, List.set_cons_zero, List.set_cons_succ]
      refine wpAnyH_take (i := 9) (oi := { dst := some 90, op := Go.Op.move (Go.Operand.tmp 8), type := 22, pos := "outright.go:106", after := #[{ on := 8, ground := Go.Ground.guard }], guard := some (8, false) }) (v := .slice a8 L c8) rfl (by kernel_rfl) (by kernel_rfl) (by kernel_rfl) (fun _ _ _ h => h) (Or.inl ⟨by kernel_rfl, ?_⟩) hS ?_
      · intro w5 hSw
        clear hSw hS
        go_simp
      simp only [Act.put, List.setIfInBounds_toArray, List.set_cons_zero, List.set_cons_succ]
      refine wpAnyH_take (i := 10) (oi := { dst := some 91, op := Go.Op.move (Go.Operand.tmp 2), type := 3, pos := "outright.go:106", after := #[{ on := 8, ground := Go.Ground.guard }], guard := some (8, false) }) (v := .int .i64 at') rfl (by kernel_rfl) (by kernel_rfl) (by kernel_rfl) (fun _ _ _ h => h) (Or.inl ⟨by kernel_rfl, ?_⟩) hS ?_
      · intro w5 hSw
        clear hSw hS
        go_simp
      simp only [Act.put, List.setIfInBounds_toArray, List.set_cons_zero, List.set_cons_succ]
      refine wpAnyH_ready (rs := [11]) (by kernel_rfl) (by simp) ?_
      refine AllReadyH.cons (o := { dst := some 92, op := Go.Op.call { callee := Go.Callee.value (Go.Operand.func 24), args := #[Go.Operand.tmp 90, Go.Operand.tmp 91], argTypes := #[22, 3] }, type := 4, pos := "outright.go:106", after := #[{ on := 9, ground := Go.Ground.data }, { on := 10, ground := Go.Ground.data }, { on := 8, ground := Go.Ground.chain }, { on := 8, ground := Go.Ground.guard }], guard := some (8, false) }) rfl (fun K hK => ?_) AllReadyH.nil
      rw [if_pos (by kernel_rfl)]
      go_simp
      refine (HSh.out w10 Hk10.out).mono ?_
      rintro e w11 ⟨rfl, h9⟩
      have HU11 := Hid.of (HU10.out.trans h9)
      have Hk11 := Hid.of (Hk10.out.trans h9)
      have Hv11 := Hid.of (Hv10.out.trans h9)
      dsimp only
      have HP11 := Hid.of (hS.1.up h9)
      refine hK.out _ _ ⟨hS.1.up h9, hS.2.1.up h9, HU11.out⟩ (fun hS => ?_)
      clear hK K h9
      refine wpAnyH_take (i := 12) (oi := { dst := some 93, op := Go.Op.unOp Go.UnOp.not 4 (Go.Operand.tmp 92), type := 4, pos := "outright.go:106", after := #[{ on := 11, ground := Go.Ground.data }, { on := 8, ground := Go.Ground.guard }], guard := some (8, false) }) (v := .bool false) rfl (by kernel_rfl) (by kernel_rfl) (by kernel_rfl) (fun _ _ _ h => h) (Or.inl ⟨by kernel_rfl, ?_⟩) hS ?_
      · intro w5 hSw
        clear hSw hS
        go_simp
      simp only [Act.put, List.setIfInBounds_toArray, List.set_cons_zero, List.set_cons_succ]
      refine wpAnyH_take (i := 13) (oi := { dst := some 94, op := Go.Op.pick (Go.Operand.tmp 89) (Go.Operand.const (Go.Value.bool true)) (Go.Operand.tmp 93), type := 4, pos := "outright.go:106", after := #[{ on := 8, ground := Go.Ground.data }, { on := 12, ground := Go.Ground.data }], guard := none }) (v := .bool false) rfl (by kernel_rfl) (by kernel_rfl) (by kernel_rfl) (fun _ _ _ h => h) (Or.inl ⟨by kernel_rfl, ?_⟩) hS ?_
      · intro w5 hSw
        clear hSw hS
        go_simp
      simp only [Act.put, List.setIfInBounds_toArray, List.set_cons_zero, List.set_cons_succ]
      clear hS
      refine wpAnyH_done (by kernel_rfl) ?_ _
      go_wp2_with (with_reducible show wpList _ _ _ ({ dst := _, op := Op.call { callee := Callee.builtin Builtin.append, args := _, argTypes := _ }, type := _, pos := _, after := _, guard := _ } :: _) _ _; refine Shut.out ?_)
      show wpList _ _ _ _ _ _
      have HO11 := Hid.of (ow_up HO8.out Hk11.out)
      have HO11' := Hid.of (show w11.ownsRow w5.heap.size 5 1 (.slice a8 L c8) L (cb l) by have h1 := HO11.out; unfold Ow at h1; rw [HL.out] at h1; exact h1)
      refine wpList_appSb2 (N := w5.heap.size) rfl _ _ rfl a8 c8 l _ tl rfl rfl (HT.out.up HU11.out) HO11'.out (Hk6.out.trans Hk11.out).size (by omega) ?_
      intro a12 c12 w12 o12 u12 g12
      have HU12 := Hid.of (HU5.out.trans (u12 w5 (Hk6.out.trans Hk11.out) (Nat.le_refl _)))
      have HP12 := Hid.of (HP11.out.by g12 (own_ne HO11'.out HP11.out (by decide)))
      have HF12 := Hid.of (FdO.fdl (show FdO w12 w6.heap.size aP FF cP from World.ownsRow.kept (ow_up HF7.out (Hu8.out.trans Hv11.out)) g12 (own_off (ow_up HF7.out (Hu8.out.trans Hv11.out)) HO11'.out (by decide))))
      have HB12 := Hid.of (show Sb w12 (.slice aB nb cB) bd from Ow.sb (B := w6.heap.size) (World.ownsRow.kept (ow_up HB7.out (Hu8.out.trans Hv11.out)) g12 (by
        cases hv : (Value.slice aB nb cB).ownBlock with
        | none => exact .inl rfl
        | some g =>
          refine .inr (fun e => ?_)
          have h1 := (World.ownsRow.lt HB7.out g hv).1
          have h2 := (World.ownsRow.lt HO8.out g e.symm).2
          omega)))
      have HS12 := Hid.of (show Sb w12 (.slice a12 (L + tl.length) c12) (l ++ tl) from Ow.sb (B := w5.heap.size) (by
        unfold Ow
        rw [List.length_append, HL.out]
        exact o12))
      clear o12 u12 g12
      simp only [Act.put, List.setIfInBounds_toArray, List.set_cons_zero, List.set_cons_succ]
      go_wp2_with fail
      refine (padded_walk (.slice a12 (L + tl.length) c12) (l ++ tl) 0 (by rw [List.length_append, HL.out]; omega) w12 HS12.out).mono ?_
      rintro e w13 ⟨v13, rfl, hO13, h9⟩
      have hpd : pdd (l ++ tl) 0 = l ++ tl := by unfold pdd; simp
      rw [hpd] at hO13
      obtain ⟨a13, c13, rfl⟩ := row_len hO13
      have HS13 := Hid.of (Ow.sb hO13)
      have HU13 := Hid.of (HU12.out.trans h9)
      have Hk13 := Hid.of h9
      have hl13 : (l ++ tl).length ≤ 1099511627776 := by rw [List.length_append, HL.out]; omega
      clear h9 hO13 hpd
      generalize hN13 : (l ++ tl).length = N13 at HS13 hl13 ⊢
      clear hN13
      dsimp only
      go_wp2_with fail
      refine (ParseRequest_walk ad hl13 w13 HS13.out (HW.out.up HU13.out)).mono ?_
      rintro e w14 ⟨hR14, h9⟩
      rw [HPt.out] at hR14
      obtain ⟨aS, cS, vS, rfl, hO14⟩ := hR14
      obtain ⟨aC, cC, rfl⟩ := row_len hO14.out.2
      have HU14 := Hid.of (HU13.out.trans h9)
      have Hk14 := Hid.of (Hk13.out.trans h9)
      have HG14 := Hid.of (FdO.fdl hO14.out.1)
      have HC14 := Hid.of (Ow.sb hO14.out.2)
      clear h9 hO14
      unfold rqV
      dsimp only at HG14 HC14 ⊢
      rw [vs_data', vs_data', HNPx.out, HBn.out, HCl.out]
      rw [HBn.out] at HC14
      obtain ⟨w15, hw15⟩ : ∃ w15, w14.alloc (.cells #[.string m, .string t, .int .i64 mi, .slice aS nP cS, .slice aC nb cC, .bool cl] 27) = w15 := ⟨_, rfl⟩
      have HU15 := Hid.of (show Up w w15 by rw [← hw15]; exact HU14.out.alloc _)
      have HS15 := Hid.of (show At w15 w14.heap.size 27 [.string m, .string t, .int .i64 mi, .slice aS nP cS, .slice aC nb cC, .bool cl] by rw [← hw15]; exact at_new w14 27 [.string m, .string t, .int .i64 mi, .slice aS nP cS, .slice aC nb cC, .bool cl])
      have Hu15 := Hid.of (show Up w14 w15 by rw [← hw15]; exact (Up.refl w14).alloc _)
      have HP15 := Hid.of (HP12.out.up (Hk14.out.trans Hu15.out))
      have HF15 := Hid.of (HF12.out.up (Hk14.out.trans Hu15.out))
      have HB15 := Hid.of (HB12.out.up (Hk14.out.trans Hu15.out))
      have HG15 := Hid.of (HG14.out.up Hu15.out)
      have HC15 := Hid.of (HC14.out.up Hu15.out)
      have HW15 := Hid.of hw15
      clear hw15
      have y1 : ((L : Int) == (L : Int)) = true := by simp
      have HTw := Hid.of (twins_same m t mi FF nP cl aS aP cS cP (.slice aC nb cC) (.slice aB nb cB) bd HNPx.out (by omega) w15 HG15.out HF15.out HC15.out HB15.out)
      go_wp2_with (with_reducible show wpList _ _ _ ({ dst := _, op := Op.load 27 _, type := _, pos := _, after := _, guard := _ } :: _) _ _; refine Shut.out ?_)
      show wpList _ _ _ _ _ _
      change wpList _ _ _ _ _ (w14.alloc (.cells #[.string m, .string t, .int .i64 mi, .slice aS nP cS, .slice aC nb cC, .bool cl] 27))
      rw [HW15.out]
      refine wpList_valG (.agg ([.string m, .string t, .int .i64 mi, .slice aS nP cS, .slice aC nb cC, .bool cl] : List Value).toArray) (by kernel_rfl) (exec_load6 rfl rfl HS15.out.range) ?_
      simp only [Act.put, List.setIfInBounds_toArray, List.set_cons_zero, List.set_cons_succ]
      go_wp2_with (with_reducible show wpList _ _ _ ({ dst := _, op := Op.load 27 _, type := _, pos := _, after := _, guard := _ } :: _) _ _; refine Shut.out ?_)
      show wpList _ _ _ _ _ _
      refine wpList_valG (.agg ([.string m, .string t, .int .i64 mi, .slice aP nP cP, .slice aB nb cB, .bool cl] : List Value).toArray) (by kernel_rfl) (exec_load6 rfl rfl HP15.out.range) ?_
      simp only [Act.put, List.setIfInBounds_toArray, List.set_cons_zero, List.set_cons_succ]
      go_wp2_with fail
      refine HTw.out.mono ?_
      rintro e wk ⟨rfl, uk⟩
      have HUk := Hid.of (HU15.out.trans uk)
      clear uk
      dsimp only
      go_wp2
      go_ret
      exact ⟨rfl, HUk.out⟩
end Go.Proofs.YtbgjnghjddcooaaGreatDoor
namespace Go.Proofs.YtbgjnghjddcooaaGreatDoor
open Go.RowKit Go.Shelf TextNum
theorem bads_at (k : Nat) (h : k < bads.length) : bads[k] ∈ bads := List.getElem_mem h
theorem mod18 (z : Int) : ∃ j : Nat, (wrap64 (z.tmod 18 + 18)).tmod 18 = (j : Int) ∧ j < 18 := by
  have t1 := Int.tmod_lt_of_pos z (show (0 : Int) < 18 by decide)
  have t2 := Int.lt_tmod_of_pos z (show (0 : Int) < 18 by decide)
  have t3 : wrap64 (z.tmod 18 + 18) = z.tmod 18 + 18 := by
    have h3 := IntWalk.i64_left (z.tmod 18 + 18)
    rw [← h3]
    exact IntWalk.i64_in _ (by omega)
  rw [t3]
  have t4 := Int.tmod_nonneg (a := z.tmod 18 + 18) 18 (by omega)
  have t5 := Int.tmod_lt_of_pos (z.tmod 18 + 18) (show (0 : Int) < 18 by decide)
  exact ⟨((z.tmod 18 + 18).tmod 18).toNat, by omega, by omega⟩
set_option maxRecDepth 100000 in
set_option maxHeartbeats 4000000 in
theorem bad_walk (z : Int) (w : World) : Calls Tryz.prog 21 #[.int .i64 z] w fun e w' => (∃ Ys, Ys ∈ bads ∧ ∃ s : ByteArray, e = .returned (.string s) ∧ s.data.toList ++ [13, 10] = fl Ys ∧ s.size ≤ 100) ∧ Up w w' := by
  obtain ⟨j, hj, hj18⟩ := mod18 z
  have hjk : j = 0 ∨ j = 1 ∨ j = 2 ∨ j = 3 ∨ j = 4 ∨ j = 5 ∨ j = 6 ∨ j = 7 ∨ j = 8 ∨ j = 9 ∨ j = 10 ∨ j = 11 ∨ j = 12 ∨ j = 13 ∨ j = 14 ∨ j = 15 ∨ j = 16 ∨ j = 17 := by omega
  clear hj18
  go_enter Tryz.func21, Tryz.ntmps21
  rcases hjk with rfl | rfl | rfl | rfl | rfl | rfl | rfl | rfl | rfl | rfl | rfl | rfl | rfl | rfl | rfl | rfl | rfl | rfl
  · go_wp2
    go_ret
    exact ⟨⟨_, bads_at 0 (by decide), _, rfl, by decide +kernel, by decide +kernel⟩, (Up.refl w).alloc _⟩
  · go_wp2
    go_ret
    exact ⟨⟨_, bads_at 1 (by decide), _, rfl, by decide +kernel, by decide +kernel⟩, (Up.refl w).alloc _⟩
  · go_wp2
    go_ret
    exact ⟨⟨_, bads_at 2 (by decide), _, rfl, by decide +kernel, by decide +kernel⟩, (Up.refl w).alloc _⟩
  · go_wp2
    go_ret
    exact ⟨⟨_, bads_at 3 (by decide), _, rfl, by decide +kernel, by decide +kernel⟩, (Up.refl w).alloc _⟩
  · go_wp2
    go_ret
    exact ⟨⟨_, bads_at 4 (by decide), _, rfl, by decide +kernel, by decide +kernel⟩, (Up.refl w).alloc _⟩
  · go_wp2
    go_ret
    exact ⟨⟨_, bads_at 5 (by decide), _, rfl, by decide +kernel, by decide +kernel⟩, (Up.refl w).alloc _⟩
  · go_wp2
    go_ret
    exact ⟨⟨_, bads_at 6 (by decide), _, rfl, by decide +kernel, by decide +kernel⟩, (Up.refl w).alloc _⟩
  · go_wp2
    go_ret
    exact ⟨⟨_, bads_at 7 (by decide), _, rfl, by decide +kernel, by decide +kernel⟩, (Up.refl w).alloc _⟩
  · go_wp2
    go_ret
    exact ⟨⟨_, bads_at 8 (by decide), _, rfl, by decide +kernel, by decide +kernel⟩, (Up.refl w).alloc _⟩
  · go_wp2
    go_ret
    exact ⟨⟨_, bads_at 9 (by decide), _, rfl, by decide +kernel, by decide +kernel⟩, (Up.refl w).alloc _⟩
  · go_wp2
    go_ret
    exact ⟨⟨_, bads_at 10 (by decide), _, rfl, by decide +kernel, by decide +kernel⟩, (Up.refl w).alloc _⟩
  · go_wp2
    go_ret
    exact ⟨⟨_, bads_at 11 (by decide), _, rfl, by decide +kernel, by decide +kernel⟩, (Up.refl w).alloc _⟩
  · go_wp2
    go_ret
    exact ⟨⟨_, bads_at 12 (by decide), _, rfl, by decide +kernel, by decide +kernel⟩, (Up.refl w).alloc _⟩
  · go_wp2
    go_ret
    exact ⟨⟨_, bads_at 13 (by decide), _, rfl, by decide +kernel, by decide +kernel⟩, (Up.refl w).alloc _⟩
  · go_wp2
    go_ret
    exact ⟨⟨_, bads_at 14 (by decide), _, rfl, by decide +kernel, by decide +kernel⟩, (Up.refl w).alloc _⟩
  · go_wp2
    go_ret
    exact ⟨⟨_, bads_at 15 (by decide), _, rfl, by decide +kernel, by decide +kernel⟩, (Up.refl w).alloc _⟩
  · go_wp2
    go_ret
    exact ⟨⟨_, bads_at 16 (by decide), _, rfl, by decide +kernel, by decide +kernel⟩, (Up.refl w).alloc _⟩
  · go_wp2
    go_ret
    exact ⟨⟨_, bads_at 17 (by decide), _, rfl, by decide +kernel, by decide +kernel⟩, (Up.refl w).alloc _⟩
end Go.Proofs.YtbgjnghjddcooaaGreatDoor
namespace Go.Proofs.YtbgjnghjddcooaaGreatDoor
open Go.RowKit Go.Shelf TextNum
theorem frF_zero (fs : List FD) : frF fs 0 = pfs fs := by unfold frF; rw [if_neg (by omega)]
/-- where the first line ends -/
theorem prt_at {st : List UInt8} {F : List FD} (h : (10 : UInt8) ∉ st) : ∃ p, p = st.length + 1 ∧ p + 1 ≤ (prt st F []).length ∧ (∀ i (hi : i < (prt st F []).length), i < p → (prt st F [])[i] ≠ 10) ∧ (∀ (hi : p < (prt st F []).length), (prt st F [])[p] = 10) ∧ (prt st F []).take (p + 1) = st ++ [13, 10] ∧ (prt st F []).drop (p + 1) = lbs F ++ [13, 10] := by
  have e : prt st F [] = (st ++ [13, 10]) ++ (lbs F ++ [13, 10]) := by simp [prt]
  have hl : (st ++ [13, 10]).length = st.length + 1 + 1 := by simp
  refine ⟨st.length + 1, rfl, ?_, ?_, ?_, ?_, ?_⟩
  · rw [e, List.length_append, hl]; omega
  · intro i hi hip
    have h0 : (prt st F [])[i]? = some (prt st F [])[i] := List.getElem?_eq_getElem hi
    generalize (prt st F [])[i] = x at h0 ⊢
    have h1 := h0
    rw [e, List.getElem?_append_left (by rw [hl]; omega)] at h1
    intro h2
    rw [h2] at h1
    by_cases h3 : i < st.length
    · rw [List.getElem?_append_left h3] at h1
      exact h (List.mem_of_getElem? h1)
    · have h4 : i = st.length := by omega
      rw [h4, List.getElem?_append_right (Nat.le_refl _), Nat.sub_self] at h1
      cases h1
  · intro hi
    have h0 : (prt st F [])[st.length + 1]? = some (prt st F [])[st.length + 1] := List.getElem?_eq_getElem hi
    generalize (prt st F [])[st.length + 1] = x at h0 ⊢
    have h1 := h0
    rw [e, List.getElem?_append_left (by rw [hl]; omega), List.getElem?_append_right (by omega), show st.length + 1 - st.length = 1 by omega] at h1
    exact (Option.some.inj h1).symm
  · rw [e, List.take_left' hl]
  · rw [e, List.drop_left' hl]
set_option maxRecDepth 100000 in
set_option maxHeartbeats 8000000 in
theorem smuggles_walk (ad : Nat → Addr) (m t : ByteArray) (mi : Int) (an : Option Addr) (ns : List ByteArray) (cn : Nat) (av : Option Addr) (us : List ByteArray) (cv : Nat) (ab : Option Addr) (nb cb' : Nat) (pad : Int) (wh : Int) (ax : Option Addr) (nx cx : Nat) (tl : List UInt8) (w : World) (hN : StL w an ns cn) (hV : StL w av us cv) (hT : Sb w (.slice ax nx cx) tl) (hW : GW w ad)
    (hm : m.size ≤ 1099511627776) (ht : t.size ≤ 1099511627776) (hnl : ns.length ≤ 1048576) (htl : tl.length ≤ 1048576) (hz : szs (mkF ns us) ≤ 1099511627000) :
    Calls Tryz.prog 6 #[.agg #[.string m, .string t, .int .i64 mi, .slice an ns.length cn, .slice av us.length cv, .slice ab nb cb', .int .i64 pad], .int .i64 wh, .slice ax nx cx] w fun e w' => e = .returned (.bool true) ∧ Up w w' := by
  have HN := Hid.of hN
  have HV := Hid.of hV
  have HT := Hid.of hT
  have HW := Hid.of hW
  have hcn := hN.cap
  clear hN hV hT hW
  obtain ⟨F, hF⟩ : ∃ F, mkF ns us = F := ⟨_, rfl⟩
  have HFl := Hid.of (show F.length = ns.length by rw [← hF, mkF_len])
  rw [hF] at hz
  have HFe := Hid.of hF
  clear hF
  have HA0 := Hid.of (at_new w 52 [.string m, .string t, .int .i64 mi, .slice an ns.length cn, .slice av us.length cv, .slice ab nb cb', .int .i64 pad])
  have HU0 := Hid.of ((Up.refl w).alloc (.cells [.string m, .string t, .int .i64 mi, .slice an ns.length cn, .slice av us.length cv, .slice ab nb cb', .int .i64 pad].toArray 52))
  go_enter Tryz.func6, Tryz.ntmps6
  go_wp2_with fail
  obtain ⟨w1, hw1⟩ : ∃ w1, w.alloc (.cells [.string m, .string t, .int .i64 mi, .slice an ns.length cn, .slice av us.length cv, .slice ab nb cb', .int .i64 pad].toArray 52) = w1 := ⟨_, rfl⟩
  rw [hw1] at HA0 HU0
  change Calls _ _ _ (w.alloc (.cells [.string m, .string t, .int .i64 mi, .slice an ns.length cn, .slice av us.length cv, .slice ab nb cb', .int .i64 pad].toArray 52)) _
  rw [hw1]
  clear hw1
  refine (known_walk ad w1 (HW.out.up HU0.out)).mono ?_
  rintro e w2 ⟨rfl, h9⟩
  have HU2 := Hid.of (HU0.out.trans h9)
  have HA2 := Hid.of (HA0.out.up h9)
  clear h9
  dsimp only
  have k5 := HA2.out.cell (i := 5) rfl
  have f5 := HA2.out.thaw 5
  have HB2 := Hid.of (HA2.out.set 5 (.slice none 0 0))
  have k6 := HB2.out.cell (i := 6) rfl
  have f6 := HB2.out.thaw 6
  have HC2 := Hid.of (HB2.out.set 6 (.int .i64 0))
  have k2 := HC2.out.cell (i := 2) rfl
  have f2 := HC2.out.thaw 2
  have HD2 := Hid.of (HC2.out.set 2 (.int .i64 1))
  have HX2 := Hid.of (((HU2.out.by (grown_set1 w2 w.heap.size 5 (.slice none 0 0)) (fun g hg => by have := Option.some.inj hg; omega)).by (grown_set1 _ w.heap.size 6 (.int .i64 0)) (fun g hg => by have := Option.some.inj hg; omega)).by (grown_set1 _ w.heap.size 2 (.int .i64 1)) (fun g hg => by have := Option.some.inj hg; omega))
  go_wp2_with (with_reducible show wpList _ _ _ ({ dst := _, op := Op.load 52 _, type := _, pos := _, after := _, guard := _ } :: _) _ _; refine Shut.out ?_)
  show wpList _ _ _ _ _ _
  obtain ⟨w3, hw3⟩ : ∃ w3, ((w2.setCell ⟨w.heap.size, 5, none⟩ (.slice none 0 0)).setCell ⟨w.heap.size, 6, none⟩ (.int .i64 0)).setCell ⟨w.heap.size, 2, none⟩ (.int .i64 1) = w3 := ⟨_, rfl⟩
  have HA3 := Hid.of (show At w3 w.heap.size 52 [.string m, .string t, .int .i64 1, .slice an ns.length cn, .slice av us.length cv, .slice none 0 0, .int .i64 0] by rw [← hw3]; exact HD2.out)
  have HU3 := Hid.of (show Up w w3 by rw [← hw3]; exact HX2.out)
  change wpList _ _ _ _ _ (((w2.setCell ⟨w.heap.size, 5, none⟩ (.slice none 0 0)).setCell ⟨w.heap.size, 6, none⟩ (.int .i64 0)).setCell ⟨w.heap.size, 2, none⟩ (.int .i64 1))
  rw [hw3]
  clear hw3 k5 f5 k6 f6 k2 f2 HB2 HC2 HD2 HX2
  refine wpList_load_mid rfl _ _ rfl w.heap.size 0 rfl [.string m, .string t, .int .i64 1, .slice an ns.length cn, .slice av us.length cv, .slice none 0 0, .int .i64 0] _ HA3.out.range Tryz.underlying52 rfl (by kernel_rfl) ?_
  simp only [Act.put, List.setIfInBounds_toArray, List.set_cons_zero, List.set_cons_succ]
  go_wp2_with fail
  refine (request_walk m t 1 an ns cn av us cv none 0 0 [] 0 w3 (HN.out.up HU3.out) (HV.out.up HU3.out) (sb_nil' _) hnl (by simp)).mono ?_
  rintro e w4 ⟨⟨aF, cF, vF, rfl, hO⟩, h9⟩
  have hpd : pdd [] 0 = [] := by unfold pdd; simp
  rw [hpd, HFe.out] at hO
  obtain ⟨aR, cR, rfl⟩ := row_len hO.out.2
  simp only [List.length_nil] at hO ⊢
  have HU4 := Hid.of (HU3.out.trans h9)
  have HA4 := Hid.of (HA3.out.up h9)
  have HF4 := Hid.of (FdO.fdl hO.out.1)
  have HB4 := Hid.of (show Sb w4 (.slice aR 0 cR) [] from Ow.sb hO.out.2)
  clear hO h9 hpd
  obtain ⟨nF, hnF⟩ : ∃ nF, ns.length = nF := ⟨_, rfl⟩
  have HNF := Hid.of (show F.length = nF by rw [HFl.out]; exact hnF)
  have HNs := Hid.of hnF
  have HFR := Hid.of (FormatRequest_walk ad m t 1 aF F cF aR 0 cR [] false w4 HF4.out HB4.out (HW.out.up HU4.out) hm ht (by decide) (by decide) hz (by decide))
  rw [HNF.out] at HFR
  rw [hnF] at hnl hcn HA4 ⊢
  clear hnF
  go_wp2_with fail
  refine HFR.out.mono ?_
  rintro e w6 ⟨hR, h9⟩
  have HU6 := Hid.of (HU4.out.trans h9)
  have HQ6 := Hid.of (HA4.out.up h9)
  clear h9 HFR
  have c3 := HQ6.out.cell (i := 3) rfl
  cases hq : frQ m t 1 F [] with
  | error k =>
    rw [hq] at hR
    have hne := frQ_er hq
    have hne2 : (nums k == 0) = false := by simpa [bne] using hne
    obtain rfl := hR
    clear hq
    dsimp only
    go_wp2
    go_ret
    exact ⟨rfl, HU6.out⟩
  | ok l =>
    rw [hq] at hR
    obtain ⟨a8, c8, rfl, hO8⟩ := hR
    obtain ⟨hck, hl⟩ := frQ_ok hq
    simp only [List.length_nil] at hck hl
    rw [frF_zero] at hck hl
    obtain ⟨k1, k2, k3, k4, k5, k6⟩ := ckq_none hck
    obtain ⟨p, hp, hp1, hp2, hp3, hp4, hp5⟩ := prt_at (F := pfs F) (frS_no (m := m) (t := t) (mi := 1) k1 k2 k4)
    rw [← hl] at hp1 hp2 hp3 hp4 hp5
    have hfr := frS_len m t 1
    have hcko := (ckq_ok hck).1
    have hpn : (pfs F).length ≤ nF := by rw [← HNF.out]; exact pfs_len F
    have hlb : (lbs (pfs F)).length ≤ l.length := by
      have h1 : (l.drop (p + 1)).length = (lbs (pfs F)).length + 2 := by rw [hp5]; simp
      rw [List.length_drop] at h1
      omega
    have HBad := Hid.of (fun (Ys : List (List UInt8)) (hY : Ys ∈ bads) (h1 : nF ≤ 60) (h2 : l.length ≤ 16000) => rqP_bad (t := t) (m := m) (fs := F) hck hY (by omega) (by omega) tl)
    have HLc := Hid.of (Sb.len (Ow.sb hO8.out)).2.1
    have HS8 := Hid.of (Ow.sb hO8.out)
    have HG := Hid.of (fun i (hi : i < l.length) (w' : World) (hu : Up w6 w') => (HS8.out.up hu).get hi)
    have hpl : p ≤ 8001 := by omega
    clear hq hl hck k1 k2 k3 k4 k5 k6 hp hfr hcko hpn hlb hO8
    obtain ⟨L, hL⟩ : ∃ L, l.length = L := ⟨_, rfl⟩
    have HL := Hid.of hL
    rw [hL] at HS8 hp1 HBad HLc ⊢
    clear hL
    dsimp only
    by_cases h60 : 60 < nF
    · have h60z : (60 : Int) < (nF : Int) := by omega
      go_wp2
      go_ret
      exact ⟨rfl, HU6.out⟩
    · have h60z : ¬ (60 : Int) < (nF : Int) := by omega
      by_cases h16 : 16000 < L
      · have h16z : (16000 : Int) < (L : Int) := by omega
        go_wp2
        go_ret
        exact ⟨rfl, HU6.out⟩
      · have h16z : ¬ (16000 : Int) < (L : Int) := by omega
        have HBad := Hid.of (fun Ys hY => HBad.out Ys hY (by omega) (by omega))
        go_wp2
        clear h60 h60z h16z c3
        go_loopw [9] (fun v9 wr => ∃ i : Nat, v9 = .int .i64 (i : Int) ∧ i ≤ p ∧ wr = w6) (fun v9 _ => p - (intOf v9).toNat)
        case atStart => exact ⟨0, rfl, Nat.zero_le _, rfl⟩
        case round =>
          obtain ⟨i, rfl, hi, rfl⟩ := hrel
          have hiL : i < l.length := by rw [HL.out]; omega
          have hiz : (i : Int) < (L : Int) := by rw [HL.out] at hiL; omega
          obtain ⟨b7, o7, rfl, hc7⟩ := HG.out i hiL _ (Up.refl _)
          by_cases hip : i < p
          · have hne := hp2 i hiL hip
            have hx : ((l[i].toNat : Int) != 10) = true := by
              rw [bne_iff_ne]
              intro h
              apply hne
              apply UInt8.toNat_inj.1
              have : (10 : UInt8).toNat = 10 := rfl
              omega
            clear hne
            go_wp2
            go_roundw
            all_goals first
              | exact ⟨i + 1, by go_num, by omega, trivial⟩
              | (simp [intOf]; omega)
          · have hie : i = p := by omega
            subst hie
            have hx : ((l[i].toNat : Int) != 10) = false := by rw [hp3 hiL]; rfl
            have hxl : ((i : Int) == (L : Int)) = false := by rw [beq_eq_false_iff_ne]; omega
            clear hip hi
            go_wp2_with (with_reducible show wpList _ _ _ ({ dst := _, op := Op.slice 22 _ _ _ _, type := _, pos := _, after := _, guard := _ } :: _) _ _; refine Shut.out ?_)
            show wpList _ _ _ _ _ _
            clear hx hc7 hxl
            refine wpList_val7 (.slice _ (i + 1) c8) rfl (exec_subhi (by have := HLc.out; omega) rfl rfl (by rfl)) ?_
            simp only [Act.put, List.setIfInBounds_toArray, List.set_cons_zero, List.set_cons_succ]
            obtain ⟨X1, hX1⟩ : ∃ X1, frS m t 1 ++ [13, 10] = X1 := ⟨_, rfl⟩
            obtain ⟨X2, hX2⟩ : ∃ X2, lbs (pfs F) ++ [13, 10] = X2 := ⟨_, rfl⟩
            have HBad := Hid.of (fun Ys hY => show rqP (X1 ++ fl Ys ++ X2 ++ tl) = .error 5 by
              have h1 := HBad.out Ys hY
              rw [← hX1, ← hX2]
              rw [show frS m t 1 ++ [13, 10] ++ fl Ys ++ (lbs (pfs F) ++ [13, 10]) ++ tl = frS m t 1 ++ 13 :: 10 :: (fl Ys ++ (lbs (pfs F) ++ 13 :: 10 :: tl)) by simp]
              exact h1)
            rw [hX1] at hp4
            rw [hX2] at hp5
            have HS9 := Hid.of (show Sb wr (.slice (some ⟨b7, o7, none⟩) (i + 1) c8) X1 from by
              have h1 := HS8.out
              rw [← HL.out] at h1
              have h2 := h1.take (i + 1) (by rw [HL.out]; omega)
              rw [hp4] at h2
              exact h2)
            have HS10 := Hid.of (show Sb wr (.slice (sv (some ⟨b7, o7, none⟩) c8 (i + 1)) (L - (i + 1)) (c8 - (i + 1))) X2 from by
              have h1 := HS8.out
              have h2 := h1.sub (i + 1) L (by omega) (by rw [HL.out]; exact Nat.le_refl _)
              rw [← HL.out, List.take_of_length_le (Nat.le_refl _), hp5, HL.out] at h2
              exact h2)
            have hx1l : X1.length ≤ 8002 := by rw [← hp4, List.length_take, HL.out]; omega
            have hx2l : X2.length ≤ 16000 := by rw [← hp5, List.length_drop, HL.out]; omega
            clear hX1 hX2 hp2 hp3 hp4 hp5 HG
            go_wp2_with (with_reducible show wpList _ _ _ ({ dst := _, op := Op.call { callee := Callee.builtin Builtin.append, args := _, argTypes := _ }, type := _, pos := _, after := _, guard := _ } :: _) _ _; refine Shut.out ?_)
            show wpList _ _ _ _ _ _
            refine wpList_appSb2 (N := wr.heap.size) rfl _ _ rfl none 0 [] _ X1 rfl rfl HS9.out (World.ownsRow_nil _ _ _ _) (Nat.le_refl _) (by omega) ?_
            intro a9 c9 w9 o9 u9 _
            have HU9 := Hid.of (u9 wr (Up.refl _) (Nat.le_refl _))
            rw [Nat.zero_add, List.nil_append] at o9
            rw [Nat.zero_add]
            have HO9 := Hid.of (show Ow w9 wr.heap.size (.slice a9 X1.length c9) X1 from o9)
            clear o9 u9
            simp only [Act.put, List.setIfInBounds_toArray, List.set_cons_zero, List.set_cons_succ]
            generalize hX1n : X1.length = n1 at HO9 hx1l ⊢
            have HN1 := Hid.of hX1n
            clear hX1n
            go_wp2_with fail
            refine (bad_walk wh w9).mono ?_
            rintro e w10 ⟨⟨Ys, hY, s, rfl, hs, hsz⟩, h9⟩
            have HU10 := Hid.of (HU9.out.trans h9)
            have HO10 := Hid.of (show Ow w10 wr.heap.size (.slice a9 n1 c9) X1 from ow_up HO9.out h9)
            have HP := Hid.of (HBad.out Ys hY)
            have hYl : (fl Ys).length ≤ 102 := by
              rw [← hs, List.length_append, ← Go.Lib.size_eq]
              simp only [List.length_cons, List.length_nil]
              omega
            have HSs := Hid.of hs
            clear h9 hY hs HBad HO9
            have hl1 : ¬ 9223372036854775807 < s.size + 2 := by omega
            dsimp only
            go_wp2_with (with_reducible show wpList _ _ _ ({ dst := _, op := Op.call { callee := Callee.builtin Builtin.append, args := _, argTypes := _ }, type := _, pos := _, after := _, guard := _ } :: _) _ _; refine Shut.out ?_)
            show wpList _ _ _ _ _ _
            refine wpList_appStr rfl _ _ rfl a9 c9 X1 (s ++ ⟨#[13, 10]⟩) (fl Ys) rfl rfl (by rw [bat_app]; exact HSs.out) HN1.out HO10.out HU10.out.size (by omega) ?_
            intro a11 c11 w11 o11 u11
            have HU11 := Hid.of (u11 wr HU10.out (Nat.le_refl _))
            have HO11 := Hid.of o11
            clear o11 u11 hl1 HSs HO10
            simp only [Act.put, List.setIfInBounds_toArray, List.set_cons_zero, List.set_cons_succ]
            go_wp2_with (with_reducible show wpList _ _ _ ({ dst := _, op := Op.slice 22 _ _ _ _, type := _, pos := _, after := _, guard := _ } :: _) _ _; refine Shut.out ?_)
            show wpList _ _ _ _ _ _
            refine wpList_val7 (.slice (sv (some ⟨b7, o7, none⟩) c8 (i + 1)) (L - (i + 1)) (c8 - (i + 1))) rfl (exec_sublo (lo := i + 1) (by omega) rfl rfl (by rfl)) ?_
            simp only [Act.put, List.setIfInBounds_toArray, List.set_cons_zero, List.set_cons_succ]
            go_wp2_with (with_reducible show wpList _ _ _ ({ dst := _, op := Op.call { callee := Callee.builtin Builtin.append, args := _, argTypes := _ }, type := _, pos := _, after := _, guard := _ } :: _) _ _; refine Shut.out ?_)
            show wpList _ _ _ _ _ _
            have HO12 := Hid.of (show w11.ownsRow wr.heap.size 5 1 (.slice a11 (n1 + (fl Ys).length) c11) (n1 + (fl Ys).length) (cb (X1 ++ fl Ys)) by
              have h1 := HO11.out
              unfold Ow at h1
              rw [List.length_append, HN1.out] at h1
              exact h1)
            refine wpList_appSb2 (N := wr.heap.size) rfl _ _ rfl a11 c11 (X1 ++ fl Ys) _ X2 rfl rfl (HS10.out.up HU11.out) HO12.out HU11.out.size (by omega) ?_
            intro a13 c13 w13 o13 u13 _
            have HU13 := Hid.of (u13 wr HU11.out (Nat.le_refl _))
            have HO13 := Hid.of o13
            clear o13 u13 HO11 HO12
            simp only [Act.put, List.setIfInBounds_toArray, List.set_cons_zero, List.set_cons_succ]
            go_wp2_with (with_reducible show wpList _ _ _ ({ dst := _, op := Op.call { callee := Callee.builtin Builtin.append, args := _, argTypes := _ }, type := _, pos := _, after := _, guard := _ } :: _) _ _; refine Shut.out ?_)
            show wpList _ _ _ _ _ _
            refine wpList_appSb2 (N := wr.heap.size) rfl _ _ rfl a13 c13 (X1 ++ fl Ys ++ X2) _ tl rfl rfl (HT.out.up (HU6.out.trans HU13.out)) HO13.out HU13.out.size (by omega) ?_
            intro a14 c14 w14 o14 u14 _
            have HU14 := Hid.of (HU6.out.trans (u14 wr HU13.out (Nat.le_refl _)))
            have HS14 := Hid.of (show Sb w14 (.slice a14 (n1 + (fl Ys).length + X2.length + tl.length) c14) (X1 ++ fl Ys ++ X2 ++ tl) from Ow.sb (B := wr.heap.size) (by
              unfold Ow
              rw [List.length_append, List.length_append, List.length_append, HN1.out]
              exact o14))
            clear o14 u14 HO13
            simp only [Act.put, List.setIfInBounds_toArray, List.set_cons_zero, List.set_cons_succ]
            go_wp2_with fail
            refine (ParseRequest_walk ad (by omega) w14 HS14.out (HW.out.up HU14.out)).mono ?_
            rintro e w15 ⟨hR15, h9⟩
            rw [HP.out] at hR15
            obtain rfl := hR15
            have HU15 := Hid.of (HU14.out.trans h9)
            clear h9
            dsimp only
            rw [show numK 5 = 143 from rfl, show z6.toArray = #[.string ⟨#[]⟩, .string ⟨#[]⟩, .int .i64 0, .slice none 0 0, .slice none 0 0, .bool false] from rfl]
            have HSt := Hid.of (StatusOf_walk ad 143 (w15.alloc (.cells #[.string ⟨#[]⟩, .string ⟨#[]⟩, .int .i64 0, .slice none 0 0, .slice none 0 0, .bool false] 27)) (HW.out.up (HU15.out.alloc _)).ge)
            have HU16 := Hid.of (HU15.out.alloc (.cells #[.string ⟨#[]⟩, .string ⟨#[]⟩, .int .i64 0, .slice none 0 0, .slice none 0 0, .bool false] 27))
            rw [show sOf 143 = 400 by decide +kernel] at HSt
            go_wp2_with fail
            refine HSt.out.mono ?_
            rintro e w17 ⟨rfl, h9⟩
            have HU17 := Hid.of (HU16.out.trans h9)
            clear h9
            dsimp only
            go_wp2
            go_ret
            exact ⟨rfl, HU17.out⟩
end Go.Proofs.YtbgjnghjddcooaaGreatDoor
