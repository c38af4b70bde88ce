import Derived.Test.YtnciglpdjpckiaaGreatDoorJCff0
import Derived.Test.YtnciglpdjpckiaaGreatDoorJCff1
import Derived.Test.YtnciglpdjpckiaaGreatDoorJCft0
import Derived.Test.YtnciglpdjpckiaaGreatDoorJCft1
import Derived.Test.YtnciglpdjpckiaaGreatDoorK8
import Derived.Test.YtnciglpdjpckiaaGreatDoorKA
import Derived.Test.YtnciglpdjpckiaaGreatDoorRb
import Derived.Test.YtnciglpdjpckiaaGreatDoorMu
import Derived.Test.YtnciglpdjpckiaaGreatDoorHg
import Derived.Test.YtnciglpdjpckiaaGreatDoorLx
namespace Go.Proofs.YtnciglpdjpckiaaGreatDoor
open Go.RowKit Go.Shelf TextNum ModNum
theorem SplitR_walk (s : ByteArray) (w : World) : Calls Tryz.prog 66 #[.string s] w (SR s.data.toList w) := by
  by_cases hbad : 128 < s.size ∨ s.data.toList.head? ≠ some 118
  · exact Split_bad s w hbad
  · have hs : s.size ≤ 128 := by rcases Nat.lt_or_ge 128 s.size with h | h; exact absurd (.inl h) hbad; exact h
    have hh : s.data.toList.head? = some 118 := Decidable.not_not.1 (fun h => hbad (.inr h))
    cases hinc : sfx INC (s.data.toList.drop 1) with
    | false =>
      by_cases h45 : (45 : UInt8) ∈ vcore s.data.toList
      · exact Split_f1 s w hs hh hinc h45
      · exact Split_f0 s w hs hh hinc h45
    | true =>
      by_cases h45 : (45 : UInt8) ∈ vcore s.data.toList
      · exact Split_t1 s w hs hh hinc h45
      · exact Split_t0 s w hs hh hinc h45
theorem cmpV_on {a b : List UInt8} {q : Prt} (ha : ver a = some q) (hb : ver b = none) : cmpV a b = 1 := by
  obtain ⟨n0, n1, n2, h2⟩ := vp_n a
  have hva : vp a = q := by unfold vp; rw [ha]; rfl
  have hvb : vp b = zp := by unfold vp; rw [hb]; rfl
  rw [hva] at h2
  have hk := (ver_num ha).2
  unfold vok at hk
  rw [h2] at hk
  simp only [Bool.and_eq_true, List.all_cons] at hk
  have hn0 := hk.1.1.1
  have hlen : 0 < n0.length := by
    unfold isNum at hn0
    simp only [Bool.and_eq_true, Bool.or_eq_true, beq_iff_eq, decide_eq_true_eq] at hn0
    omega
  have hu : cmpU n0 [] = 1 := by
    unfold cmpU cmpN
    simp [hlen]
  show cmpP (vp a) (vp b) = 1
  unfold cmpP
  rw [hva, hvb, h2]
  rw [show zp.n = [[], [], []] from rfl, cmp3_eq, hu]
  rfl
theorem ver_bounds {l : List UInt8} {q : Prt} (h : ver l = some q) : (∀ x ∈ q.n, x.length ≤ 1048576) ∧ q.ws.length ≤ 1048576 ∧ ∀ x ∈ q.ws, isWrd x = true ∧ x.length ≤ 1048576 := by
  have hl := (ver_len h).1
  have hk := (ver_num h).2
  have hq : q = vprt l := by
    unfold ver at h
    split at h
    · cases h
    · split at h
      · exact (Option.some.inj h).symm
      · cases h
  have hvc : (vcore l).length ≤ 128 := by
    have h5 : (l.drop 1).length ≤ 128 := by rw [List.length_drop]; omega
    have h6 : ∀ p l : List UInt8, (tsf p l).length ≤ l.length := fun p l => by
      unfold tsf
      by_cases h : sfx p l = true
      · rw [if_pos h]; exact List.length_take_le' _ _
      · rw [if_neg h]; exact Nat.le_refl _
    exact Nat.le_trans (h6 INC _) h5
  have hbh : (bhd 45 (vcore l)).length ≤ 128 := by
    by_cases h45 : (45 : UInt8) ∈ vcore l
    · have := congrArg List.length (cut_eq h45)
      simp only [List.length_append, List.length_cons] at this
      omega
    · rw [bhd_miss h45]; simp
  have hws : q.ws.length ≤ 1048576 ∧ ∀ x ∈ q.ws, x.length ≤ 1048576 := by
    rw [hq]
    show (if 45 ∈ vcore l then pcs 46 (bhd 45 (vcore l)) else []).length ≤ _ ∧ ∀ x ∈ (if 45 ∈ vcore l then pcs 46 (bhd 45 (vcore l)) else []), _
    split
    · refine ⟨by have := pcs_cnt 46 (bhd 45 (vcore l)); omega, fun x hx => ?_⟩
      have := pcs_sub (c := 46) hx
      omega
    · exact ⟨by simp, fun x hx => by cases hx⟩
  refine ⟨fun x hx => ?_, hws.1, fun x hx => ⟨?_, hws.2 x hx⟩⟩
  · rw [hq] at hx
    have := pcs_sub (c := 46) (show x ∈ pcs 46 (ahd 45 (vcore l)) from hx)
    have h2 := ahd_le 45 (vcore l)
    omega
  · unfold vok at hk
    simp only [Bool.and_eq_true] at hk
    exact List.all_eq_true.1 hk.1.2 x hx
end Go.Proofs.YtnciglpdjpckiaaGreatDoor
namespace Go.Proofs.YtnciglpdjpckiaaGreatDoor
open Go.RowKit Go.Shelf TextNum ModNum
set_option maxRecDepth 100000 in
theorem RCheckPath_walk (s : ByteArray) (w : World) (hT : TK w) : Calls Tryz.prog 37 #[.string s] w fun e w' => e = .returned (.int .i64 (majE s.data.toList)) ∧ Up w w' := by
  have HM := Hid.of (Major_walk s w hT)
  clear hT
  go_enter Tryz.func37, Tryz.ntmps37
  go_wp2_with fail
  refine HM.out.mono ?_
  rintro e w1 ⟨m, rfl, _, u1⟩
  have H1 := Hid.of u1
  have HB := Hid.of (show majE s.data.toList = if (maj s.data.toList).isSome then 0 else 110 by unfold majE; cases maj s.data.toList <;> rfl)
  clear u1 HM
  generalize (⟨m.toArray⟩ : ByteArray) = ms at *
  dsimp only
  cases hb : (maj s.data.toList).isSome with
  | true =>
    rw [hb] at HB
    clear hb
    go_wp2
    go_ret
    rw [HB.out]
    exact ⟨rfl, H1.out⟩
  | false =>
    rw [hb] at HB
    clear hb
    go_wp2
    go_ret
    rw [HB.out]
    exact ⟨rfl, H1.out⟩
set_option maxRecDepth 100000 in
theorem RCheckVersion_walk (s : ByteArray) (w : World) : Calls Tryz.prog 39 #[.string s] w fun e w' => e = .returned (.int .i64 (verE s.data.toList)) ∧ Up w w' := by
  have HM := Hid.of (SplitR_walk s w)
  go_enter Tryz.func39, Tryz.ntmps39
  go_wp2_with fail
  refine HM.out.mono ?_
  rintro e w1 ⟨n0, n1, n2, v, inc, rfl, _, ⟨a, n, c, rfl⟩, u1⟩
  have H1 := Hid.of u1
  have HB := Hid.of (show verE s.data.toList = if (ver s.data.toList).isSome then 0 else 111 by unfold verE; cases ver s.data.toList <;> rfl)
  clear u1 HM
  dsimp only
  cases hb : (ver s.data.toList).isSome with
  | true =>
    rw [hb] at HB
    clear hb
    go_wp2
    go_ret
    rw [HB.out]
    exact ⟨rfl, H1.out.alloc _⟩
  | false =>
    rw [hb] at HB
    clear hb
    go_wp2
    go_ret
    rw [HB.out]
    exact ⟨rfl, H1.out.alloc _⟩
set_option maxRecDepth 100000 in
set_option maxHeartbeats 1000000 in
theorem Fits_walk (p s : ByteArray) (w : World) (hT : TK w) : Calls Tryz.prog 51 #[.string p, .string s] w fun e w' => e = .returned (.int .i64 (fte p.data.toList s.data.toList)) ∧ Up w w' := by
  have HM := Hid.of (Major_walk p w hT)
  clear hT
  have HR : Hid (fte p.data.toList s.data.toList = match maj p.data.toList with
    | none => 110
    | some m => match ver s.data.toList with
      | none => 111
      | some q => if fit q m then 0 else 111) := rfl
  go_enter Tryz.func51, Tryz.ntmps51
  go_wp2_with fail
  refine HM.out.mono ?_
  rintro e w1 ⟨m, rfl, hm, u1⟩
  have H1 := Hid.of u1
  clear u1 HM
  cases hmj : maj p.data.toList with
  | none =>
    rw [hmj] at HR
    clear hmj hm
    generalize (⟨m.toArray⟩ : ByteArray) = ms at *
    dsimp only [Option.isSome]
    go_wp2
    go_ret
    rw [HR.out]
    exact ⟨rfl, H1.out⟩
  | some q =>
    have hmq := hm q hmj
    subst hmq
    rw [hmj] at HR
    clear hmj hm
    obtain ⟨ms, hm1, hm2⟩ := ba_ex m
    rw [hm2]
    have HS := Hid.of (SplitR_walk s w1)
    clear hm2
    dsimp only [Option.isSome]
    go_wp2_with fail
    refine HS.out.mono ?_
    rintro e w2 ⟨n0, n1, n2, v, inc, rfl, hq, ⟨a, n, c, rfl⟩, u2⟩
    have H2 := Hid.of (H1.out.trans u2)
    clear u2 HS
    obtain ⟨ns, hn1, hn2⟩ := ba_ex n0
    have HQ := Hid.of hq
    clear hq
    dsimp only
    go_wp2_with (with_reducible show wpList _ _ _ ({ dst := _, op := Op.store 111 _ _, type := _, pos := _, after := _, guard := _ } :: _) _ _; refine Shut.out ?_)
    show wpList _ _ _ _ _ _
    refine wpList_store_at rfl _ _ _ rfl w2.heap.size (at_new w2 111 z5) [.string ⟨n0.toArray⟩, .string ⟨n1.toArray⟩, .string ⟨n2.toArray⟩, .slice a n c, .bool inc] rfl rfl rfl (by kernel_rfl) (one5 _ _ _ _ _ _ _) fun wz hAz hgz => ?_
    have HUz := Hid.of ((H2.out.alloc (.cells z5.toArray 111)).by hgz (fun g hg => by injection hg with hg; have := H2.out.size; omega))
    have k0 := hAz.cell (i := 0) rfl
    have k4 := hAz.cell (i := 4) rfl
    rw [hn2] at k0 hAz
    generalize hb : w2.heap.size = bb at *
    clear hb hgz
    simp only [Act.put]
    cases hv : ver s.data.toList with
    | none =>
      rw [hv] at HR
      clear hv hm1 hn1 hn2
      dsimp only [Option.isSome]
      go_wp2
      go_ret
      rw [HR.out]
      exact ⟨rfl, HUz.out⟩
    | some pq =>
      obtain ⟨e1, _, e3⟩ := HQ.out pq hv
      rw [hv] at HR
      have HF := Hid.of (show fte p.data.toList s.data.toList = if (if m = [] then inc || isLow n0 else decide (n0 = m) && !inc) then 0 else 111 by
        rw [HR.out]
        show (if fit pq m = true then (0 : Int) else 111) = _
        unfold fit
        rw [e1, e3]
        rfl)
      rw [← hm1, ← hn1, isLow_eq] at HF
      clear hv HR e1 e3 hm1 hn1 hn2 HQ
      dsimp only [Option.isSome]
      by_cases hm : ms.data.toList = []
      · have he : ms.toList.isEmpty = true := by rw [Go.Lib.toList_data, hm]; rfl
        rw [if_pos hm] at HF
        clear hm
        cases h48 : (ns.toList == [48]) with
        | true =>
          rw [h48] at HF
          go_wp2
          go_ret
          rw [HF.out]
          exact ⟨by simp, HUz.out⟩
        | false =>
          rw [h48] at HF
          cases h49 : (ns.toList == [49]) with
          | true =>
            rw [h49] at HF
            go_wp2
            go_ret
            rw [HF.out]
            exact ⟨by simp, HUz.out⟩
          | false =>
            rw [h49] at HF
            cases inc with
            | true =>
              go_wp2
              go_ret
              rw [HF.out]
              exact ⟨rfl, HUz.out⟩
            | false =>
              go_wp2
              go_ret
              rw [HF.out]
              exact ⟨rfl, HUz.out⟩
      · have he : ms.toList.isEmpty = false := by
          rw [Go.Lib.toList_data]
          cases h : ms.data.toList with
          | nil => exact absurd h hm
          | cons a r => rfl
        have hqq : (ns.toList == ms.toList) = decide (ns.data.toList = ms.data.toList) := by
          rw [Go.Lib.toList_data, Go.Lib.toList_data, Bool.eq_iff_iff]
          simp
        rw [if_neg hm] at HF
        clear hm
        generalize decide (ns.data.toList = ms.data.toList) = bq at *
        cases bq with
        | true =>
          cases inc with
          | true =>
            go_wp2
            go_ret
            rw [HF.out]
            exact ⟨rfl, HUz.out⟩
          | false =>
            go_wp2
            go_ret
            rw [HF.out]
            exact ⟨rfl, HUz.out⟩
        | false =>
          go_wp2
          go_ret
          rw [HF.out]
          exact ⟨rfl, HUz.out⟩
theorem fte_len {p v : List UInt8} (h : fte p v = 0) : p.length ≤ 255 ∧ v.length ≤ 128 := by
  unfold fte at h
  cases hm : maj p with
  | none => rw [hm] at h; cases h
  | some m =>
    rw [hm] at h
    cases hv : ver v with
    | none => rw [hv] at h; cases h
    | some q =>
      constructor
      · unfold maj at hm
        split at hm
        · cases hm
        · omega
      · unfold ver at hv
        split at hv
        · cases hv
        · omega
set_option maxRecDepth 100000 in
theorem RKey_walk (p s : ByteArray) (w : World) (hT : TK w) : Calls Tryz.prog 25 #[.string p, .string s] w fun e w' => e = .returned (.tuple #[.string ⟨(keyT p.data.toList s.data.toList).toArray⟩, .int .i64 (fte p.data.toList s.data.toList)]) ∧ Up w w' := by
  have HF := Hid.of (Fits_walk p s w hT)
  have HK : Hid (keyT p.data.toList s.data.toList = if fte p.data.toList s.data.toList = 0 then p.data.toList ++ 64 :: s.data.toList else []) := rfl
  clear hT
  have HL := Hid.of (fun h => fte_len (p := p.data.toList) (v := s.data.toList) h)
  rw [len_of, len_of] at HL
  generalize fte p.data.toList s.data.toList = f at *
  go_enter Tryz.func25, Tryz.ntmps25
  go_wp2_with fail
  refine (HF.out).mono ?_
  rintro e w1 ⟨rfl, u1⟩
  have H1 := Hid.of (u1)
  have Hu1 := Hid.of u1
  clear u1
  dsimp only
  by_cases h0 : f = 0
  · subst h0
    obtain ⟨l1, l2⟩ := HL.out rfl
    rw [if_pos rfl] at HK
    have k1 : ¬ 9223372036854775807 < p.size + 1 := by omega
    have k2 : ¬ 9223372036854775807 < p.size + 1 + s.size := by omega
    go_wp2
    go_ret2
    refine ⟨?_, H1.out⟩
    rw [HK.out]
    refine congrArg (fun z => Ending.returned (.tuple #[.string z, .int .i64 0])) ?_
    rw [ba_app, ba_app]
    simp
  · have hz : (f == 0) = false := by simpa using h0
    rw [if_neg h0] at HK
    clear h0
    go_wp2
    go_ret2
    refine ⟨?_, H1.out⟩
    rw [HK.out]
    rfl
end Go.Proofs.YtnciglpdjpckiaaGreatDoor
namespace Go.Proofs.YtnciglpdjpckiaaGreatDoor
open Go.RowKit Go.Shelf TextNum ModNum
/-- a letter escaped -/
def es1 (c : UInt8) : List UInt8 := if kd c.toNat = 2 then [33, c + 32] else [c]
def esc' (l : List UInt8) : List UInt8 := l.flatMap es1
/-- an escaped text turned back -/
def une : List UInt8 → Option (List UInt8)
  | [] => some []
  | c :: r => if kd c.toNat = 2 then none else if c = 33 then (match r with
      | [] => none
      | d :: r' => if kd d.toNat = 1 then (une r').map ((d - 32) :: ·) else none) else (une r).map (c :: ·)
theorem kd_cap {c : UInt8} : kd c.toNat = 2 ↔ 65 ≤ c.toNat ∧ c.toNat ≤ 90 := by
  unfold kd
  (repeat' split) <;> omega
theorem kd_sml {c : UInt8} : kd c.toNat = 1 ↔ 97 ≤ c.toNat ∧ c.toNat ≤ 122 := by
  unfold kd
  (repeat' split) <;> omega
theorem up_nat {c : UInt8} (h : kd c.toNat = 2) : (c + 32).toNat = c.toNat + 32 := by
  have := kd_cap.1 h
  rw [UInt8.toNat_add]
  show (c.toNat + 32) % 256 = _
  omega
theorem dn_nat {c : UInt8} (h : kd c.toNat = 1) : (c - 32).toNat = c.toNat - 32 := by
  have := kd_sml.1 h
  rw [UInt8.toNat_sub]
  show (256 - 32 + c.toNat) % 256 = _
  omega
theorem une_esc : ∀ (l p : List UInt8), une l = some p → esc' p = l
  | [], p, h => by simp [une] at h; subst h; rfl
  | c :: r, p, h => by
    unfold une at h
    split at h
    · cases h
    · rename_i h1
      split at h
      · rename_i h2
        subst h2
        match r, h with
        | [], h => cases h
        | d :: r', h =>
          simp only at h
          split at h
          · rename_i h3
            obtain ⟨q, hq, rfl⟩ := Option.map_eq_some_iff.1 h
            have ih := une_esc r' q hq
            have hn := dn_nat h3
            have hs := kd_sml.1 h3
            have h4 : kd (d - 32).toNat = 2 := kd_cap.2 (by rw [hn]; omega)
            have h5 : d - 32 + 32 = d := UInt8.toNat_inj.1 (by rw [up_nat h4, hn]; omega)
            show es1 (d - 32) ++ esc' q = _
            rw [ih]
            unfold es1
            rw [if_pos h4, h5]
            rfl
          · cases h
      · obtain ⟨q, hq, rfl⟩ := Option.map_eq_some_iff.1 h
        have ih := une_esc r q hq
        show es1 c ++ esc' q = _
        rw [ih]
        unfold es1
        rw [if_neg h1]
        rfl
theorem esc_une : ∀ (p : List UInt8), (33 : UInt8) ∉ p → une (esc' p) = some p
  | [], _ => rfl
  | c :: p, h => by
    have ih := esc_une p (fun e => h (by simp [e]))
    show une (es1 c ++ esc' p) = _
    unfold es1
    by_cases h2 : kd c.toNat = 2
    · rw [if_pos h2]
      have hn := up_nat h2
      have hc := kd_cap.1 h2
      have h3 : kd (c + 32).toNat = 1 := kd_sml.2 (by rw [hn]; omega)
      have h5 : c + 32 - 32 = c := UInt8.toNat_inj.1 (by rw [dn_nat h3, hn]; omega)
      show une (33 :: (c + 32) :: esc' p) = _
      unfold une
      rw [if_neg (by decide), if_pos rfl]
      simp only
      rw [if_pos h3, ih, h5]
      rfl
    · rw [if_neg h2]
      have hne : ¬ c = 33 := fun e => h (by simp [e])
      show une (c :: esc' p) = _
      unfold une
      rw [if_neg h2, if_neg hne, ih]
      rfl
theorem esc_len (l : List UInt8) : (esc' l).length ≤ 2 * l.length := by
  induction l with
  | nil => simp [esc']
  | cons c l ih =>
    show (es1 c ++ esc' l).length ≤ _
    rw [List.length_append, List.length_cons]
    have : (es1 c).length ≤ 2 := by unfold es1; split <;> simp
    omega
theorem esc_snoc (l : List UInt8) (c : UInt8) : esc' (l ++ [c]) = esc' l ++ es1 c := by simp [esc']
theorem u8_32 (c : UInt8) : ((c.toNat : Int) + 32) % 256 = ((c + 32 : UInt8).toNat : Int) := by
  rw [UInt8.toNat_add]
  show ((c.toNat : Int) + 32) % 256 = (((c.toNat + 32) % 256 : Nat) : Int)
  omega
theorem u8_m32 (c : UInt8) : ((c.toNat : Int) - 32) % 256 = ((c - 32 : UInt8).toNat : Int) := by
  have := c.toNat_lt
  rw [UInt8.toNat_sub]
  show ((c.toNat : Int) - 32) % 256 = (((256 - 32 + c.toNat) % 256 : Nat) : Int)
  omega
theorem w32 (c : UInt8) : wrap32 ((c.toNat : Nat) : Int) = (c.toNat : Int) := by
  have := c.toNat_lt
  unfold wrap32
  omega
set_option maxRecDepth 100000 in
set_option maxHeartbeats 1000000 in
theorem escape_walk (s : ByteArray) (hs : s.size ≤ 1048576) (w : World) (hG : GM w) : Calls Tryz.prog 120 #[.string s] w fun e w' => e = .returned (vs (esc' s.data.toList)) ∧ Up w w' := by
  have HG := Hid.of hG
  clear hG
  have hq : IntKind.i64.wrap (2 * (s.size : Int)) = 2 * (s.size : Int) := by
    simp only [IntKind.wrap, IntKind.signed, IntKind.bits]
    simp
    omega
  go_enter Tryz.func120, Tryz.ntmps120
  go_wp2_with (with_reducible show wpList _ _ _ ({ dst := _, op := Op.makeSlice 42 _ _, type := _, pos := _, after := _, guard := _ } :: _) _ _; refine Shut.out ?_)
  show wpList _ _ _ _ _ _
  refine wpList_mk rfl _ _ rfl _ _ _ (2 * s.size) rfl rfl (by omega) (by omega) ?_
  intro w1 h1 u1
  simp only [Act.put, List.setIfInBounds_toArray, List.set_cons_zero, List.set_cons_succ]
  have H1 := Hid.of (And.intro h1 u1)
  clear h1 u1 hq
  go_wp2
  go_loopw [3, 4, 11] (fun v3 _ v11 wr => ∃ i : Nat, v11 = .int .i64 (i : Int) ∧ i ≤ s.size ∧ Hid (Own wr w.heap.size v3 (esc' (s.data.toList.take i)) ∧ Up w wr)) (fun _ _ v11 _ => s.size - (intOf v11).toNat)
  case atStart => exact ⟨0, rfl, by omega, H1.out.1, H1.out.2⟩
  case round =>
    obtain ⟨i, rfl, hi, hI⟩ := hrel
    by_cases hlt : i < s.size
    · have hlt' : (i : Int) < (s.size : Int) := by omega
      have HK := Hid.of (kindOf_walk s[i].toNat wr (HG.out.up hI.out.2))
      have hX := esc_snoc (s.data.toList.take i) s[i]
      rw [← take_succ hlt] at hX
      have HX := Hid.of (And.intro hX trivial)
      clear hX
      have hlen := esc_len (s.data.toList.take i)
      rw [List.length_take, len_of] at hlen
      have HL := Hid.of (show (esc' (s.data.toList.take i)).length + 2 ≤ 140737488355328 by omega)
      clear hlen
      have hw3 := w32 s[i]
      generalize hxx : s[i] = x at *
      by_cases hc : kd x.toNat = 2
      · rw [hc] at HK
        have HE : Hid (es1 x = [33, x + 32] ∧ True) := ⟨if_pos hc, trivial⟩
        have H32 := Hid.of (And.intro (u8_32 x) trivial)
        clear hc
        go_wp2_with fail
        refine (HK.out).mono ?_
        rintro e w2 ⟨rfl, u2⟩
        have H2 := Hid.of (hI.out.2.trans u2)
        have Hu2 := Hid.of u2
        clear u2
        dsimp only
        go_wp2_with (with_reducible show wpList _ _ _ ({ dst := _, op := Op.call { callee := Callee.builtin Builtin.append, args := _, argTypes := _ }, type := _, pos := _, after := _, guard := _ } :: _) _ _; refine Shut.out ?_)
        show wpList _ _ _ _ _ _
        rw [H32.out.1]
        refine wpList_app1 (w := w2) rfl _ _ rfl w.heap.size _ (esc' (s.data.toList.take i)) [33, x + 32] rfl (by exact hI.out.1.below Hu2.out) 2 rfl HL.out H2.out.size ?_
        intro v' w' h1 h2
        simp only [Act.put, List.setIfInBounds_toArray, List.set_cons_zero, List.set_cons_succ]
        go_wp2
        go_roundw
        case rel => exact ⟨i + 1, by go_num, by omega, by rw [HX.out.1, HE.out.1]; exact h1, H2.out.step (Nat.le_refl _) h2⟩
        case measure => simp [intOf]; omega
      · have HE : Hid (es1 x = [x] ∧ True) := ⟨if_neg hc, trivial⟩
        have hkz : (((kd x.toNat : Nat) : Int) == 2) = false := by rw [beq_eq_false_iff_ne]; omega
        generalize kd x.toNat = kk at *
        clear hc
        go_wp2_with fail
        refine (HK.out).mono ?_
        rintro e w2 ⟨rfl, u2⟩
        have H2 := Hid.of (hI.out.2.trans u2)
        have Hu2 := Hid.of u2
        clear u2
        dsimp only
        go_wp2_with (with_reducible show wpList _ _ _ ({ dst := _, op := Op.call { callee := Callee.builtin Builtin.append, args := _, argTypes := _ }, type := _, pos := _, after := _, guard := _ } :: _) _ _; refine Shut.out ?_)
        show wpList _ _ _ _ _ _
        refine wpList_app1 (w := w2) rfl _ _ rfl w.heap.size _ (esc' (s.data.toList.take i)) [x] rfl (by exact hI.out.1.below Hu2.out) 1 rfl (by have := HL.out; simp; omega) H2.out.size ?_
        intro v' w' h1 h2
        simp only [Act.put, List.setIfInBounds_toArray, List.set_cons_zero, List.set_cons_succ]
        go_wp2
        go_roundw
        case rel => exact ⟨i + 1, by go_num, by omega, by rw [HX.out.1, HE.out.1]; exact h1, H2.out.step (Nat.le_refl _) h2⟩
        case measure => simp [intOf]; omega
    · have hcv := conv_sl (Own.sl hI.out.1)
      have hltz : ¬ (i : Int) < (s.size : Int) := by omega
      rw [List.take_of_length_le (by rw [len_of]; omega)] at hcv
      go_wp2
      go_ret
      exact ⟨rfl, hI.out.2⟩
end Go.Proofs.YtnciglpdjpckiaaGreatDoor
namespace Go.Proofs.YtnciglpdjpckiaaGreatDoor
open Go.RowKit Go.Shelf TextNum ModNum
theorem une_cap {c : UInt8} {r : List UInt8} (h : kd c.toNat = 2) : une (c :: r) = none := by unfold une; rw [if_pos h]
theorem une_bad {c : UInt8} {r : List UInt8} (h : kd c.toNat ≠ 1) : une (33 :: c :: r) = none := by
  unfold une
  rw [if_neg (by decide), if_pos rfl]
  simp only
  rw [if_neg h]
theorem une_mark {c : UInt8} {r : List UInt8} (h : kd c.toNat = 1) : une (33 :: c :: r) = (une r).map ((c - 32) :: ·) := by
  conv => lhs; unfold une
  rw [if_neg (by decide), if_pos rfl]
  simp only
  rw [if_pos h]
theorem une_plain {c : UInt8} {r : List UInt8} (h : kd c.toNat ≠ 2) (h2 : c ≠ 33) : une (c :: r) = (une r).map (c :: ·) := by
  conv => lhs; unfold une
  rw [if_neg h, if_neg h2]
theorem drop_get {s : ByteArray} {i : Nat} (h : i < s.size) : s.data.toList.drop i = s[i] :: s.data.toList.drop (i + 1) := by
  rw [List.drop_eq_getElem_cons (by rw [len_of]; exact h)]
  rfl
/-- where the reading stands -/
def UJ (w : World) (s : ByteArray) (v : Value) (p : List UInt8) (m : Bool) (i : Nat) (wr : World) : Prop :=
  Own wr w.heap.size v p ∧ Up w wr ∧ p.length ≤ i ∧ une s.data.toList = (une (if m = true then 33 :: s.data.toList.drop i else s.data.toList.drop i)).map (p ++ ·)
def UR (l : List UInt8) (w : World) (e : Ending) (w' : World) : Prop := ∃ x : List UInt8, e = .returned (.tuple #[.string ⟨x.toArray⟩, .bool (une l).isSome]) ∧ (∀ p, une l = some p → x = p) ∧ Up w w'
theorem UR.no {l x : List UInt8} {w w' : World} (h : une l = none) (u : Up w w') : UR l w (.returned (.tuple #[.string ⟨x.toArray⟩, .bool false])) w' :=
  ⟨x, by rw [h]; rfl, fun p hp => (by rw [h] at hp; cases hp), u⟩
set_option maxRecDepth 100000 in
set_option maxHeartbeats 2000000 in
theorem unescape_walk (s : ByteArray) (hs : s.size ≤ 140737488355000) (w : World) (hG : GM w) : Calls Tryz.prog 122 #[.string s] w (UR s.data.toList w) := by
  have HG := Hid.of hG
  clear hG
  go_enter Tryz.func122, Tryz.ntmps122
  go_wp2_with (with_reducible show wpList _ _ _ ({ dst := _, op := Op.makeSlice 42 _ _, type := _, pos := _, after := _, guard := _ } :: _) _ _; refine Shut.out ?_)
  show wpList _ _ _ _ _ _
  refine wpList_mk rfl _ _ rfl _ _ _ s.size rfl rfl rfl (by omega) ?_
  intro w1 h1 u1
  simp only [Act.put, List.setIfInBounds_toArray, List.set_cons_zero, List.set_cons_succ]
  have H1 := Hid.of (And.intro h1 u1)
  clear h1 u1
  go_wp2
  go_loopw [4, 5, 6, 7, 13] (fun v4 v5 _ _ v13 wr => ∃ (i : Nat) (m : Bool) (p : List UInt8), v5 = .bool m ∧ v13 = .int .i64 (i : Int) ∧ i ≤ s.size ∧ Hid (UJ w s v4 p m i wr)) (fun _ _ _ _ v13 _ => s.size - (intOf v13).toNat)
  case atStart => exact ⟨0, false, [], rfl, rfl, by omega, H1.out.1, H1.out.2, by simp, by simp⟩
  case round =>
    obtain ⟨i, m, p, rfl, rfl, hi, hI⟩ := hrel
    by_cases hlt : i < s.size
    · have hlt' : (i : Int) < (s.size : Int) := by omega
      have HK := Hid.of (kindOf_walk s[i].toNat wr (HG.out.up hI.out.2.1))
      have HE := Hid.of (And.intro hI.out.2.2.2 trivial)
      rw [drop_get hlt] at HE
      have HP := Hid.of (show p.length + 1 ≤ 140737488355328 by have := hI.out.2.2.1; omega)
      have hw3 := w32 s[i]
      generalize hxx : s[i] = x at *
      by_cases hc : kd x.toNat = 2
      · rw [hc] at HK
        have HN := Hid.of (And.intro (show une s.data.toList = none by
          rw [HE.out.1]
          cases m with
          | false => simp [une_cap hc]
          | true => simp [une_bad (show kd x.toNat ≠ 1 by omega)]) trivial)
        clear hc HE
        go_wp2_with fail
        refine (HK.out).mono ?_
        rintro e w2 ⟨rfl, u2⟩
        have H2 := Hid.of (hI.out.2.1.trans u2)
        have Hu2 := Hid.of u2
        clear u2
        dsimp only
        go_wp2
        go_ret2
        exact UR.no HN.out.1 H2.out
      · have hkz : (((kd x.toNat : Nat) : Int) == 2) = false := by rw [beq_eq_false_iff_ne]; omega
        cases m with
        | true =>
          by_cases hk1 : kd x.toNat = 1
          · rw [hk1] at HK
            have hsm := kd_sml.1 hk1
            have h33 : (((x.toNat : Nat) : Int) == 33) = false := by rw [beq_eq_false_iff_ne]; omega
            have H32 := Hid.of (And.intro (u8_m32 x) trivial)
            have HE2 := Hid.of (And.intro (show une s.data.toList = (une (s.data.toList.drop (i + 1))).map ((p ++ [x - 32]) ++ ·) by
              rw [HE.out.1]
              simp only [if_true]
              rw [une_mark hk1, Option.map_map]
              congr 1
              funext q
              simp) trivial)
            clear hc hk1 hsm HE hkz
            go_wp2_with fail
            refine (HK.out).mono ?_
            rintro e w2 ⟨rfl, u2⟩
            have H2 := Hid.of (hI.out.2.1.trans u2)
            have Hu2 := Hid.of u2
            clear u2
            dsimp only
            go_wp2_with (with_reducible show wpList _ _ _ ({ dst := _, op := Op.call { callee := Callee.builtin Builtin.append, args := _, argTypes := _ }, type := _, pos := _, after := _, guard := _ } :: _) _ _; refine Shut.out ?_)
            show wpList _ _ _ _ _ _
            rw [H32.out.1]
            refine wpList_app1 (w := w2) rfl _ _ rfl w.heap.size _ p [x - 32] rfl (by exact hI.out.1.below Hu2.out) 1 rfl HP.out H2.out.size ?_
            intro v' w' h1 h2
            simp only [Act.put, List.setIfInBounds_toArray, List.set_cons_zero, List.set_cons_succ]
            go_wp2
            go_roundw
            case rel => exact ⟨i + 1, false, p ++ [x - 32], rfl, by go_num, by omega, h1, H2.out.step (Nat.le_refl _) h2, by have := hI.out.2.2.1; simp; omega, by simpa using HE2.out.1⟩
            case measure => simp [intOf]; omega
          · have hk1z : (((kd x.toNat : Nat) : Int) != 1) = true := by rw [bne_iff_ne]; omega
            have HN := Hid.of (And.intro (show une s.data.toList = none by
              rw [HE.out.1]
              simp [une_bad hk1]) trivial)
            generalize kd x.toNat = kk at *
            clear hc hk1 HE
            go_wp2_with fail
            refine (HK.out).mono ?_
            rintro e w2 ⟨rfl, u2⟩
            have H2 := Hid.of (hI.out.2.1.trans u2)
            have Hu2 := Hid.of u2
            clear u2
            dsimp only
            go_wp2
            go_ret2
            exact UR.no HN.out.1 H2.out
        | false =>
          by_cases h33 : x = 33
          · have h33z : (((x.toNat : Nat) : Int) == 33) = true := by rw [h33]; rfl
            have HE2 := Hid.of (And.intro (show une s.data.toList = (une (33 :: s.data.toList.drop (i + 1))).map (p ++ ·) by rw [HE.out.1, h33]; rfl) trivial)
            generalize kd x.toNat = kk at *
            clear hc h33 HE
            go_wp2_with fail
            refine (HK.out).mono ?_
            rintro e w2 ⟨rfl, u2⟩
            have H2 := Hid.of (hI.out.2.1.trans u2)
            have Hu2 := Hid.of u2
            clear u2
            dsimp only
            go_wp2
            go_roundw
            case rel => exact ⟨i + 1, true, p, rfl, by go_num, by omega, hI.out.1.below Hu2.out, H2.out, by have := hI.out.2.2.1; omega, by simpa using HE2.out.1⟩
            case measure => simp [intOf]; omega
          · have h33z : (((x.toNat : Nat) : Int) == 33) = false := by
              rw [beq_eq_false_iff_ne]
              intro h
              exact h33 (UInt8.toNat_inj.1 (by show x.toNat = 33; omega))
            have HE2 := Hid.of (And.intro (show une s.data.toList = (une (s.data.toList.drop (i + 1))).map ((p ++ [x]) ++ ·) by
              rw [HE.out.1]
              simp only [Bool.false_eq_true, if_false]
              rw [une_plain hc h33, Option.map_map]
              congr 1
              funext q
              simp) trivial)
            generalize kd x.toNat = kk at *
            clear hc h33 HE
            go_wp2_with fail
            refine (HK.out).mono ?_
            rintro e w2 ⟨rfl, u2⟩
            have H2 := Hid.of (hI.out.2.1.trans u2)
            have Hu2 := Hid.of u2
            clear u2
            dsimp only
            go_wp2_with (with_reducible show wpList _ _ _ ({ dst := _, op := Op.call { callee := Callee.builtin Builtin.append, args := _, argTypes := _ }, type := _, pos := _, after := _, guard := _ } :: _) _ _; refine Shut.out ?_)
            show wpList _ _ _ _ _ _
            refine wpList_app1 (w := w2) rfl _ _ rfl w.heap.size _ p [x] rfl (by exact hI.out.1.below Hu2.out) 1 rfl HP.out H2.out.size ?_
            intro v' w' h1 h2
            simp only [Act.put, List.setIfInBounds_toArray, List.set_cons_zero, List.set_cons_succ]
            go_wp2
            go_roundw
            case rel => exact ⟨i + 1, false, p ++ [x], rfl, by go_num, by omega, h1, H2.out.step (Nat.le_refl _) h2, by have := hI.out.2.2.1; simp; omega, by simpa using HE2.out.1⟩
            case measure => simp [intOf]; omega
    · have hcv := conv_sl (Own.sl hI.out.1)
      have hltz : ¬ (i : Int) < (s.size : Int) := by omega
      have HE := Hid.of (And.intro hI.out.2.2.2 trivial)
      rw [List.drop_eq_nil_of_le (by rw [len_of]; omega)] at HE
      cases m with
      | true =>
        have HN := Hid.of (And.intro (show une s.data.toList = none by rw [HE.out.1]; rfl) trivial)
        go_wp2
        go_ret2
        exact UR.no HN.out.1 hI.out.2.1
      | false =>
        have HN := Hid.of (And.intro (show une s.data.toList = some p by rw [HE.out.1]; simp [une]) trivial)
        go_wp2
        go_ret2
        exact ⟨p, by rw [HN.out.1]; rfl, fun q hq => by rw [HN.out.1] at hq; exact Option.some.inj hq, hI.out.2.1⟩
end Go.Proofs.YtnciglpdjpckiaaGreatDoor
namespace Go.Proofs.YtnciglpdjpckiaaGreatDoor
open Go.RowKit Go.Shelf TextNum ModNum
def epT (p : List UInt8) : List UInt8 := if (maj p).isSome then esc' p else []
def evT (p : List UInt8) : List UInt8 := if (ver p).isSome then esc' p else []
def upT (s : List UInt8) : List UInt8 := match une s with | none => [] | some p => if (maj p).isSome then p else []
def upE (s : List UInt8) : Int := match une s with | none => 112 | some p => majE p
def uvT (s : List UInt8) : List UInt8 := match une s with | none => [] | some p => if (ver p).isSome then p else []
def uvE (s : List UInt8) : Int := match une s with | none => 112 | some p => verE p
set_option maxRecDepth 100000 in
theorem EscapePath_walk (s : ByteArray) (w : World) (hG : GR w) : Calls Tryz.prog 68 #[.string s] w fun e w' => e = .returned (.tuple #[vs (epT s.data.toList), .int .i64 (majE s.data.toList)]) ∧ Up w w' := by
  have HC := Hid.of (CheckPath_walk s w hG)
  cases hm : maj s.data.toList with
  | none =>
    have HT : Hid (epT s.data.toList = [] ∧ majE s.data.toList = 110) := ⟨by unfold epT; rw [hm]; rfl, majE_none hm⟩
    rw [majE_none hm] at HC
    clear hm
    go_enter Tryz.func68, Tryz.ntmps68
    go_wp2_with fail
    refine (HC.out).mono ?_
    rintro e w1 ⟨rfl, u1⟩
    have H1 := Hid.of (u1)
    have Hu1 := Hid.of u1
    clear u1
    dsimp only
    go_wp2
    go_ret2
    rw [HT.out.1, HT.out.2]
    exact ⟨rfl, H1.out⟩
  | some m =>
    have hl := (maj_len hm).1
    rw [len_of] at hl
    have HE := fun w' => fun (u : Up w w') => Hid.of (escape_walk s (by omega) w' (hG.up u).toGM)
    have HT : Hid (epT s.data.toList = esc' s.data.toList ∧ majE s.data.toList = 0) := ⟨by unfold epT; rw [hm]; rfl, majE_some hm⟩
    rw [majE_some hm] at HC
    clear hm
    go_enter Tryz.func68, Tryz.ntmps68
    go_wp2_with fail
    refine (HC.out).mono ?_
    rintro e w1 ⟨rfl, u1⟩
    have H1 := Hid.of (u1)
    have Hu1 := Hid.of u1
    clear u1
    dsimp only
    go_wp2_with fail
    refine ((HE _ H1.out).out).mono ?_
    rintro e w2 ⟨rfl, u2⟩
    have H2 := Hid.of (H1.out.trans u2)
    have Hu2 := Hid.of u2
    clear u2
    dsimp only
    go_wp2
    go_ret2
    rw [HT.out.1, HT.out.2]
    exact ⟨rfl, H2.out⟩
set_option maxRecDepth 100000 in
theorem EscapeVersion_walk (s : ByteArray) (w : World) (hG : GM w) : Calls Tryz.prog 72 #[.string s] w fun e w' => e = .returned (.tuple #[vs (evT s.data.toList), .int .i64 (verE s.data.toList)]) ∧ Up w w' := by
  have HC := Hid.of (CheckVersion_walk s w hG)
  cases hm : ver s.data.toList with
  | none =>
    have HT : Hid (evT s.data.toList = [] ∧ verE s.data.toList = 111) := ⟨by unfold evT; rw [hm]; rfl, verE_none hm⟩
    rw [verE_none hm] at HC
    clear hm
    go_enter Tryz.func72, Tryz.ntmps72
    go_wp2_with fail
    refine (HC.out).mono ?_
    rintro e w1 ⟨rfl, u1⟩
    have H1 := Hid.of (u1)
    have Hu1 := Hid.of u1
    clear u1
    dsimp only
    go_wp2
    go_ret2
    rw [HT.out.1, HT.out.2]
    exact ⟨rfl, H1.out⟩
  | some m =>
    have hl := (ver_len hm).1
    rw [len_of] at hl
    have HE := fun w' => fun (u : Up w w') => Hid.of (escape_walk s (by omega) w' (hG.up u))
    have HT : Hid (evT s.data.toList = esc' s.data.toList ∧ verE s.data.toList = 0) := ⟨by unfold evT; rw [hm]; rfl, verE_some hm⟩
    rw [verE_some hm] at HC
    clear hm
    go_enter Tryz.func72, Tryz.ntmps72
    go_wp2_with fail
    refine (HC.out).mono ?_
    rintro e w1 ⟨rfl, u1⟩
    have H1 := Hid.of (u1)
    have Hu1 := Hid.of u1
    clear u1
    dsimp only
    go_wp2_with fail
    refine ((HE _ H1.out).out).mono ?_
    rintro e w2 ⟨rfl, u2⟩
    have H2 := Hid.of (H1.out.trans u2)
    have Hu2 := Hid.of u2
    clear u2
    dsimp only
    go_wp2
    go_ret2
    rw [HT.out.1, HT.out.2]
    exact ⟨rfl, H2.out⟩
set_option maxRecDepth 100000 in
theorem UnescapePath_walk (s : ByteArray) (hs : s.size ≤ 140737488355000) (w : World) (hG : GR w) : Calls Tryz.prog 70 #[.string s] w fun e w' => e = .returned (.tuple #[vs (upT s.data.toList), .int .i64 (upE s.data.toList)]) ∧ Up w w' := by
  have HU := Hid.of (unescape_walk s hs w hG.toGM)
  have HC := fun (p : List UInt8) w' => fun (u : Up w w') => Hid.of (CheckPath_walk ⟨p.toArray⟩ w' (hG.up u))
  have HT : Hid (upT s.data.toList = (match une s.data.toList with | none => [] | some p => if (maj p).isSome then p else []) ∧ upE s.data.toList = (match une s.data.toList with | none => 112 | some p => majE p)) := ⟨rfl, rfl⟩
  clear hG
  go_enter Tryz.func70, Tryz.ntmps70
  go_wp2_with fail
  refine HU.out.mono ?_
  rintro e w1 ⟨x, rfl, hx, u1⟩
  have H1 := Hid.of u1
  have HX := Hid.of hx
  clear u1 hx HU
  dsimp only
  cases hu : une s.data.toList with
  | none =>
    rw [hu] at HT
    rw [show (none : Option (List UInt8)).isSome = false from rfl]
    clear hu
    go_wp2
    go_ret2
    rw [HT.out.1, HT.out.2]
    exact ⟨rfl, H1.out⟩
  | some p =>
    rw [hu] at HT
    obtain rfl := HX.out p hu
    rw [show (some x : Option (List UInt8)).isSome = true from rfl]
    have HC2 := Hid.of ((HC x _ H1.out).out)
    clear hu HX HC
    cases hm : maj x with
    | none =>
      rw [majE_none hm] at HC2
      have HT2 := Hid.of (show upT s.data.toList = [] ∧ upE s.data.toList = 110 from ⟨HT.out.1.trans (by simp only [hm]; rfl), HT.out.2.trans (majE_none hm)⟩)
      clear hm HT
      go_wp2_with fail
      refine (HC2.out).mono ?_
      rintro e w2 ⟨rfl, u2⟩
      have H2 := Hid.of (H1.out.trans u2)
      have Hu2 := Hid.of u2
      clear u2
      dsimp only
      go_wp2
      go_ret2
      rw [HT2.out.1, HT2.out.2]
      exact ⟨rfl, H2.out⟩
    | some m =>
      rw [majE_some hm] at HC2
      have HT2 := Hid.of (show upT s.data.toList = x ∧ upE s.data.toList = 0 from ⟨HT.out.1.trans (by simp only [hm]; rfl), HT.out.2.trans (majE_some hm)⟩)
      clear hm HT
      go_wp2_with fail
      refine (HC2.out).mono ?_
      rintro e w2 ⟨rfl, u2⟩
      have H2 := Hid.of (H1.out.trans u2)
      have Hu2 := Hid.of u2
      clear u2
      dsimp only
      go_wp2
      go_ret2
      rw [HT2.out.1, HT2.out.2]
      exact ⟨rfl, H2.out⟩
set_option maxRecDepth 100000 in
theorem UnescapeVersion_walk (s : ByteArray) (hs : s.size ≤ 140737488355000) (w : World) (hG : GM w) : Calls Tryz.prog 74 #[.string s] w fun e w' => e = .returned (.tuple #[vs (uvT s.data.toList), .int .i64 (uvE s.data.toList)]) ∧ Up w w' := by
  have HU := Hid.of (unescape_walk s hs w hG)
  have HC := fun (p : List UInt8) w' => fun (u : Up w w') => Hid.of (CheckVersion_walk ⟨p.toArray⟩ w' (hG.up u))
  have HT : Hid (uvT s.data.toList = (match une s.data.toList with | none => [] | some p => if (ver p).isSome then p else []) ∧ uvE s.data.toList = (match une s.data.toList with | none => 112 | some p => verE p)) := ⟨rfl, rfl⟩
  clear hG
  go_enter Tryz.func74, Tryz.ntmps74
  go_wp2_with fail
  refine HU.out.mono ?_
  rintro e w1 ⟨x, rfl, hx, u1⟩
  have H1 := Hid.of u1
  have HX := Hid.of hx
  clear u1 hx HU
  dsimp only
  cases hu : une s.data.toList with
  | none =>
    rw [hu] at HT
    rw [show (none : Option (List UInt8)).isSome = false from rfl]
    clear hu
    go_wp2
    go_ret2
    rw [HT.out.1, HT.out.2]
    exact ⟨rfl, H1.out⟩
  | some p =>
    rw [hu] at HT
    obtain rfl := HX.out p hu
    rw [show (some x : Option (List UInt8)).isSome = true from rfl]
    have HC2 := Hid.of ((HC x _ H1.out).out)
    clear hu HX HC
    cases hm : ver x with
    | none =>
      rw [verE_none hm] at HC2
      have HT2 := Hid.of (show uvT s.data.toList = [] ∧ uvE s.data.toList = 111 from ⟨HT.out.1.trans (by simp only [hm]; rfl), HT.out.2.trans (verE_none hm)⟩)
      clear hm HT
      go_wp2_with fail
      refine (HC2.out).mono ?_
      rintro e w2 ⟨rfl, u2⟩
      have H2 := Hid.of (H1.out.trans u2)
      have Hu2 := Hid.of u2
      clear u2
      dsimp only
      go_wp2
      go_ret2
      rw [HT2.out.1, HT2.out.2]
      exact ⟨rfl, H2.out⟩
    | some m =>
      rw [verE_some hm] at HC2
      have HT2 := Hid.of (show uvT s.data.toList = x ∧ uvE s.data.toList = 0 from ⟨HT.out.1.trans (by simp only [hm]; rfl), HT.out.2.trans (verE_some hm)⟩)
      clear hm HT
      go_wp2_with fail
      refine (HC2.out).mono ?_
      rintro e w2 ⟨rfl, u2⟩
      have H2 := Hid.of (H1.out.trans u2)
      have Hu2 := Hid.of u2
      clear u2
      dsimp only
      go_wp2
      go_ret2
      rw [HT2.out.1, HT2.out.2]
      exact ⟨rfl, H2.out⟩
end Go.Proofs.YtnciglpdjpckiaaGreatDoor
namespace Go.Proofs.YtnciglpdjpckiaaGreatDoor
open Go.RowKit Go.Shelf TextNum ModNum
theorem es_cap {c : UInt8} (h : cap c = true) : es1 c = [33, c + 32] ∧ (c + 32).toNat = c.toNat + 32 ∧ c.toNat + 32 < 256 := by
  simp only [cap, Bool.and_eq_true, decide_eq_true_eq] at h
  have h2 : kd c.toNat = 2 := kd_cap.2 h
  exact ⟨if_pos h2, up_nat h2, by omega⟩
theorem es_not {c : UInt8} (h : cap c = false) : es1 c = [c] := by
  refine if_neg (fun h2 => ?_)
  have := kd_cap.1 h2
  rw [show cap c = true by simp [cap, this.1, this.2]] at h
  cases h
theorem esc_take {s : ByteArray} {i : Nat} (h : i < s.size) : esc' (s.data.toList.take (i + 1)) = esc' (s.data.toList.take i) ++ es1 s[i] := by
  rw [take_succ h]
  simp [esc']
theorem esc_len2 : ∀ l : List UInt8, (esc' l).length ≤ 2 * l.length
  | [] => by simp [esc']
  | c :: l => by
    have := esc_len2 l
    show (es1 c ++ esc' l).length ≤ _
    have h2 : (es1 c).length ≤ 2 := by unfold es1; split <;> simp
    rw [List.length_append, List.length_cons]
    omega
set_option maxRecDepth 100000 in
theorem escaped_walk (s : ByteArray) (hs : s.size ≤ 1048576) (w : World) : Calls Tryz.prog 119 #[.string s] w fun e w' => e = .returned (vs (esc' s.data.toList)) ∧ Up w w' := by
  go_enter Tryz.func119, Tryz.ntmps119
  go_wp2
  go_loopw [3, 4] (fun v3 v4 wr => ∃ i : Nat, v4 = .int .i64 (i : Int) ∧ i ≤ s.size ∧ Hid (Own wr w.heap.size v3 (esc' (s.data.toList.take i)) ∧ Up w wr)) (fun _ v4 _ => s.size - (intOf v4).toNat)
  case atStart => exact ⟨0, rfl, by omega, own_nil _ _, Up.refl _⟩
  case round =>
    obtain ⟨i, rfl, hi, hI⟩ := hrel
    by_cases hlt : i < s.size
    · have hlt' : (i : Int) < (s.size : Int) := by omega
      have HT := Hid.of (esc_take hlt)
      have HL := Hid.of (show (esc' (s.data.toList.take i)).length + 2 ≤ 140737488355328 by
        have := esc_len2 (s.data.toList.take i)
        rw [List.length_take, len_of] at this
        omega)
      have HC := Hid.of (capital_walk s[i] wr)
      generalize hxx : s[i] = x at *
      go_wp2_with fail
      refine HC.out.mono ?_
      rintro e w1 ⟨rfl, u1⟩
      have H1 := Hid.of (And.intro (hI.out.1.below u1) (hI.out.2.trans u1))
      clear u1 HC hI
      dsimp only
      cases hx : cap x with
      | false =>
        rw [es_not hx] at HT
        clear hx
        go_wp2_with (with_reducible show wpList _ _ _ ({ dst := _, op := Op.call { callee := Callee.builtin Builtin.append, args := _, argTypes := _ }, type := _, pos := _, after := _, guard := _ } :: _) _ _; refine Shut.out ?_)
        show wpList _ _ _ _ _ _
        refine wpList_app1 rfl _ _ rfl w.heap.size _ (esc' (s.data.toList.take i)) [x] rfl (by exact H1.out.1) 1 rfl (by have := HL.out; simp only [List.length_cons, List.length_nil]; omega) H1.out.2.size ?_
        intro v' w3 h3 k3
        have H3 := Hid.of (And.intro h3 (H1.out.2.step (Nat.le_refl _) k3))
        clear h3 k3
        simp only [Act.put, List.setIfInBounds_toArray, List.set_cons_zero, List.set_cons_succ]
        go_wp2
        go_roundw
        case rel => exact ⟨i + 1, by go_num, by omega, by rw [HT.out]; exact H3.out.1, H3.out.2⟩
        case measure => simp [intOf]; omega
      | true =>
        obtain ⟨e1, e2, e3⟩ := es_cap hx
        rw [e1] at HT
        have hwr : IntKind.u8.wrap ((x.toNat : Int) + 32) = (x.toNat : Int) + 32 := by simp only [IntKind.wrap, IntKind.signed, IntKind.bits]; simp; omega
        obtain ⟨y, hy⟩ : ∃ y, x + 32 = y := ⟨_, rfl⟩
        rw [hy] at HT e2
        have hyz : (x.toNat : Int) + 32 = (y.toNat : Int) := by omega
        rw [hyz] at hwr
        clear hx e1 e2 e3 hy
        go_wp2_with (with_reducible show wpList _ _ _ ({ dst := _, op := Op.call { callee := Callee.builtin Builtin.append, args := _, argTypes := _ }, type := _, pos := _, after := _, guard := _ } :: _) _ _; refine Shut.out ?_)
        show wpList _ _ _ _ _ _
        refine wpList_app1 rfl _ _ rfl w.heap.size _ (esc' (s.data.toList.take i)) [33] rfl (by exact H1.out.1) 1 rfl (by have := HL.out; simp only [List.length_cons, List.length_nil]; omega) H1.out.2.size ?_
        intro v' w3 h3 k3
        have H3 := Hid.of (And.intro h3 (H1.out.2.step (Nat.le_refl _) k3))
        clear h3 k3 H1
        simp only [Act.put, List.setIfInBounds_toArray, List.set_cons_zero, List.set_cons_succ]
        go_wp2_with (with_reducible show wpList _ _ _ ({ dst := _, op := Op.call { callee := Callee.builtin Builtin.append, args := _, argTypes := _ }, type := _, pos := _, after := _, guard := _ } :: _) _ _; refine Shut.out ?_)
        show wpList _ _ _ _ _ _
        refine wpList_app1 rfl _ _ rfl w.heap.size _ (esc' (s.data.toList.take i) ++ [33]) [y] rfl (by exact H3.out.1) 1 rfl (by have := HL.out; simp only [List.length_append, List.length_cons, List.length_nil]; omega) H3.out.2.size ?_
        intro v5 w5 h5 k5
        have H5 := Hid.of (And.intro h5 (H3.out.2.step (Nat.le_refl _) k5))
        clear h5 k5
        simp only [Act.put, List.setIfInBounds_toArray, List.set_cons_zero, List.set_cons_succ]
        go_wp2
        go_roundw
        case rel => exact ⟨i + 1, by go_num, by omega, by rw [HT.out]; have := H5.out.1; simpa using this, H5.out.2⟩
        case measure => simp [intOf]; omega
    · have hlt' : ¬ (i : Int) < (s.size : Int) := by omega
      have HF := Hid.of (show s.data.toList.take i = s.data.toList from List.take_of_length_le (by rw [len_of]; omega))
      have hcv := conv_sl (Own.sl hI.out.1)
      rw [HF.out] at hcv
      have HU := Hid.of hI.out.2
      obtain ⟨a3, c3, ev⟩ := hI.out.1.len
      generalize (esc' (s.data.toList.take i)).length = m at ev
      subst ev
      clear hI
      go_wp2
      go_ret
      exact ⟨rfl, HU.out⟩
set_option maxRecDepth 100000 in
set_option maxHeartbeats 1000000 in
theorem plain_walk (s : ByteArray) (hs : s.size ≤ 1048576) (w : World) : Calls Tryz.prog 121 #[.string s] w (UR s.data.toList w) := by
  go_enter Tryz.func121, Tryz.ntmps121
  go_wp2
  go_loopw [4, 5, 6] (fun v4 v5 _ wr => ∃ i : Nat, v5 = .int .i64 (i : Int) ∧ i ≤ s.size ∧ Hid (∃ p : List UInt8, Own wr w.heap.size v4 p ∧ Up w wr ∧ p.length ≤ i ∧ une s.data.toList = (une (s.data.toList.drop i)).map (p ++ ·))) (fun _ v5 _ _ => s.size - (intOf v5).toNat)
  case atStart => exact ⟨0, rfl, by omega, [], own_nil _ _, Up.refl _, by simp, by simp⟩
  case round =>
    obtain ⟨i, rfl, hi, hI⟩ := hrel
    obtain ⟨p, hO, hU, hpl, hun⟩ := hI.out
    clear hI
    by_cases hlt : i < s.size
    · have hlt' : (i : Int) < (s.size : Int) := by omega
      have hd : s.data.toList.drop i = s[i] :: s.data.toList.drop (i + 1) := by
        rw [List.drop_eq_getElem_cons (by rw [len_of]; exact hlt)]
        rfl
      rw [hd] at hun
      have HUN := Hid.of hun
      have HO := Hid.of (And.intro hO hU)
      have HC := Hid.of (capital_walk s[i] wr)
      clear hd hun hO hU
      generalize hxx : s[i] = x at *
      go_wp2_with fail
      refine HC.out.mono ?_
      rintro e w1 ⟨rfl, u1⟩
      have H1 := Hid.of (And.intro (HO.out.1.below u1) (HO.out.2.trans u1))
      clear u1 HC HO
      dsimp only
      cases hx : cap x with
      | true =>
        have HN := Hid.of (show une s.data.toList = none by
          rw [HUN.out]
          unfold une
          rw [if_pos (kd_cap.2 (by simpa [cap] using hx))]
          rfl)
        clear hx
        go_wp2
        go_ret2
        exact UR.no (x := []) HN.out H1.out.2
      | false =>
        have hkx : kd x.toNat ≠ 2 := fun h => by
          have := kd_cap.1 h
          rw [show cap x = true by simp [cap, this.1, this.2]] at hx
          cases hx
        have HKX := Hid.of hkx
        clear hx hkx
        by_cases h33 : x = 33
        · subst h33
          by_cases h2 : i + 1 < s.size
          · have h2' : ¬ (s.size : Int) ≤ (i : Int) + 1 := by omega
            have h2z : (i : Int) + 1 < (s.size : Int) := by omega
            have hd : s.data.toList.drop (i + 1) = s[i + 1] :: s.data.toList.drop (i + 2) := by
              rw [List.drop_eq_getElem_cons (by rw [len_of]; exact h2)]
              rfl
            rw [hd] at HUN
            have HS := Hid.of (small_walk s[i + 1] w1)
            generalize hyy : s[i + 1] = y at *
            go_wp2_with fail
            refine HS.out.mono ?_
            rintro e w2 ⟨rfl, u2⟩
            have H2 := Hid.of (And.intro (H1.out.1.below u2) (H1.out.2.trans u2))
            clear u2 HS H1
            dsimp only
            cases hx : sml y with
            | false =>
              have HN := Hid.of (show une s.data.toList = none by
                rw [HUN.out]
                unfold une
                rw [if_neg (by decide), if_pos rfl]
                dsimp only
                rw [if_neg (fun h => by
                  have := kd_sml.1 h
                  rw [show sml y = true by simp [sml, this.1, this.2]] at hx
                  cases hx)]
                rfl)
              clear hx HUN
              go_wp2
              go_ret2
              exact UR.no (x := []) HN.out H2.out.2
            | true =>
              have hk1 : kd y.toNat = 1 := kd_sml.2 (by simpa [sml] using hx)
              have hyn := dn_nat hk1
              have hyb := kd_sml.1 hk1
              have hwr : IntKind.u8.wrap ((y.toNat : Int) - 32) = (y.toNat : Int) - 32 := by simp only [IntKind.wrap, IntKind.signed, IntKind.bits]; simp; omega
              have HN := Hid.of (show une s.data.toList = (une (s.data.toList.drop (i + 2))).map ((p ++ [y - 32]) ++ ·) by
                rw [HUN.out]
                conv => lhs; unfold une
                rw [if_neg (by decide), if_pos rfl]
                dsimp only
                rw [if_pos hk1, Option.map_map]
                congr 1
                funext z
                simp)
              obtain ⟨q, hq⟩ : ∃ q, y - 32 = q := ⟨_, rfl⟩
              rw [hq] at HN hyn
              have hyz : (y.toNat : Int) - 32 = (q.toNat : Int) := by omega
              rw [hyz] at hwr
              clear hx HUN hk1 hyn hyb hq
              go_wp2_with (with_reducible show wpList _ _ _ ({ dst := _, op := Op.call { callee := Callee.builtin Builtin.append, args := _, argTypes := _ }, type := _, pos := _, after := _, guard := _ } :: _) _ _; refine Shut.out ?_)
              show wpList _ _ _ _ _ _
              refine wpList_app1 rfl _ _ rfl w.heap.size _ p [q] rfl (by exact H2.out.1) 1 rfl (by simp only [List.length_cons, List.length_nil]; omega) H2.out.2.size ?_
              intro v' w3 h3 k3
              have H3 := Hid.of (And.intro h3 (H2.out.2.step (Nat.le_refl _) k3))
              clear h3 k3
              simp only [Act.put, List.setIfInBounds_toArray, List.set_cons_zero, List.set_cons_succ]
              go_wp2
              go_roundw
              case rel => exact ⟨i + 2, by go_num, by omega, p ++ [q], H3.out.1, H3.out.2, by simp; omega, HN.out⟩
              case measure => simp [intOf]; omega
          · have h2' : (s.size : Int) ≤ (i : Int) + 1 := by omega
            have HN := Hid.of (show une s.data.toList = none by
              rw [HUN.out, List.drop_of_length_le (by rw [len_of]; omega)]
              rfl)
            clear HUN
            go_wp2
            go_ret2
            exact UR.no (x := []) HN.out H1.out.2
        · have z33 : ((x.toNat : Int) == 33) = false := by rw [show (33 : Int) = ((33 : UInt8).toNat : Int) from rfl, u8eq]; simpa using h33
          have HN := Hid.of (show une s.data.toList = (une (s.data.toList.drop (i + 1))).map ((p ++ [x]) ++ ·) by
            rw [HUN.out]
            conv => lhs; unfold une
            rw [if_neg HKX.out, if_neg h33, Option.map_map]
            congr 1
            funext z
            simp)
          clear h33 HUN
          go_wp2_with (with_reducible show wpList _ _ _ ({ dst := _, op := Op.call { callee := Callee.builtin Builtin.append, args := _, argTypes := _ }, type := _, pos := _, after := _, guard := _ } :: _) _ _; refine Shut.out ?_)
          show wpList _ _ _ _ _ _
          refine wpList_app1 rfl _ _ rfl w.heap.size _ p [x] rfl (by exact H1.out.1) 1 rfl (by simp only [List.length_cons, List.length_nil]; omega) H1.out.2.size ?_
          intro v' w3 h3 k3
          have H3 := Hid.of (And.intro h3 (H1.out.2.step (Nat.le_refl _) k3))
          clear h3 k3
          simp only [Act.put, List.setIfInBounds_toArray, List.set_cons_zero, List.set_cons_succ]
          go_wp2
          go_roundw
          case rel => exact ⟨i + 1, by go_num, by omega, p ++ [x], H3.out.1, H3.out.2, by simp; omega, HN.out⟩
          case measure => simp [intOf]; omega
    · have hlt' : ¬ (i : Int) < (s.size : Int) := by omega
      have HN := Hid.of (show une s.data.toList = some p by
        rw [hun, List.drop_of_length_le (by rw [len_of]; omega)]
        show some (p ++ []) = _
        rw [List.append_nil])
      have hcv := conv_sl (Own.sl hO)
      obtain ⟨a3, c3, ev⟩ := hO.len
      have HU := Hid.of hU
      clear hun hU
      generalize p.length = m at ev
      subst ev
      clear hO
      go_wp2
      go_ret2
      exact ⟨p, by rw [HN.out]; rfl, fun z hz => (Option.some.inj (HN.out.symm.trans hz)), HU.out⟩
end Go.Proofs.YtnciglpdjpckiaaGreatDoor
namespace Go.Proofs.YtnciglpdjpckiaaGreatDoor
open Go.RowKit Go.Shelf TextNum ModNum
theorem maj_255 {p q : List UInt8} (h : maj p = some q) : p.length ≤ 255 := by
  unfold maj at h
  split at h
  · cases h
  · omega
theorem ver_128 {p : List UInt8} {q : Prt} (h : ver p = some q) : p.length ≤ 128 := by
  unfold ver at h
  split at h
  · cases h
  · omega
set_option maxRecDepth 100000 in
theorem REscapePath_walk (s : ByteArray) (w : World) (hT : TK w) : Calls Tryz.prog 67 #[.string s] w fun e w' => e = .returned (.tuple #[vs (epT s.data.toList), .int .i64 (majE s.data.toList)]) ∧ Up w w' := by
  have HC := Hid.of (RCheckPath_walk s w hT)
  have HT : Hid (epT s.data.toList = if (maj s.data.toList).isSome then esc' s.data.toList else []) := rfl
  have HE : Hid (majE s.data.toList = if (maj s.data.toList).isSome then 0 else 110) := rfl
  clear hT
  cases hm : maj s.data.toList with
  | none =>
    rw [hm] at HT HE
    rw [HE.out] at HC
    clear hm
    go_enter Tryz.func67, Tryz.ntmps67
    go_wp2_with fail
    refine (HC.out).mono ?_
    rintro e w1 ⟨rfl, u1⟩
    have H1 := Hid.of (u1)
    have Hu1 := Hid.of u1
    clear u1
    dsimp only
    go_wp2
    go_ret2
    refine ⟨?_, H1.out⟩
    rw [HT.out, HE.out]
    rfl
  | some q =>
    have hl : s.size ≤ 1048576 := by
      have := maj_255 hm
      rw [len_of] at this
      omega
    rw [hm] at HT HE
    rw [HE.out] at HC
    obtain ⟨x, hx1, hx2⟩ := ba_ex (esc' s.data.toList)
    have HX := fun w' => Hid.of (escaped_walk s hl w')
    rw [show vs (esc' s.data.toList) = .string x from congrArg Value.string hx2] at HX
    clear hm hl
    go_enter Tryz.func67, Tryz.ntmps67
    go_wp2_with fail
    refine (HC.out).mono ?_
    rintro e w1 ⟨rfl, u1⟩
    have H1 := Hid.of (u1)
    have Hu1 := Hid.of u1
    clear u1
    dsimp only
    go_wp2_with fail
    refine ((HX _).out).mono ?_
    rintro e w2 ⟨rfl, u2⟩
    have H2 := Hid.of (H1.out.trans u2)
    have Hu2 := Hid.of u2
    clear u2
    dsimp only
    go_wp2
    go_ret2
    refine ⟨?_, H2.out⟩
    rw [HT.out, HE.out]
    show _ = Ending.returned (.tuple #[vs (esc' s.data.toList), .int .i64 0])
    rw [show vs (esc' s.data.toList) = .string x from congrArg Value.string hx2]
    rfl
set_option maxRecDepth 100000 in
theorem REscapeVersion_walk (s : ByteArray) (w : World) : Calls Tryz.prog 71 #[.string s] w fun e w' => e = .returned (.tuple #[vs (evT s.data.toList), .int .i64 (verE s.data.toList)]) ∧ Up w w' := by
  have HC := Hid.of (RCheckVersion_walk s w)
  have HT : Hid (evT s.data.toList = if (ver s.data.toList).isSome then esc' s.data.toList else []) := rfl
  have HE : Hid (verE s.data.toList = if (ver s.data.toList).isSome then 0 else 111) := rfl
  cases hm : ver s.data.toList with
  | none =>
    rw [hm] at HT HE
    rw [HE.out] at HC
    clear hm
    go_enter Tryz.func71, Tryz.ntmps71
    go_wp2_with fail
    refine (HC.out).mono ?_
    rintro e w1 ⟨rfl, u1⟩
    have H1 := Hid.of (u1)
    have Hu1 := Hid.of u1
    clear u1
    dsimp only
    go_wp2
    go_ret2
    refine ⟨?_, H1.out⟩
    rw [HT.out, HE.out]
    rfl
  | some q =>
    have hl : s.size ≤ 1048576 := by
      have := ver_128 hm
      rw [len_of] at this
      omega
    rw [hm] at HT HE
    rw [HE.out] at HC
    obtain ⟨x, hx1, hx2⟩ := ba_ex (esc' s.data.toList)
    have HX := fun w' => Hid.of (escaped_walk s hl w')
    rw [show vs (esc' s.data.toList) = .string x from congrArg Value.string hx2] at HX
    clear hm hl
    go_enter Tryz.func71, Tryz.ntmps71
    go_wp2_with fail
    refine (HC.out).mono ?_
    rintro e w1 ⟨rfl, u1⟩
    have H1 := Hid.of (u1)
    have Hu1 := Hid.of u1
    clear u1
    dsimp only
    go_wp2_with fail
    refine ((HX _).out).mono ?_
    rintro e w2 ⟨rfl, u2⟩
    have H2 := Hid.of (H1.out.trans u2)
    have Hu2 := Hid.of u2
    clear u2
    dsimp only
    go_wp2
    go_ret2
    refine ⟨?_, H2.out⟩
    rw [HT.out, HE.out]
    show _ = Ending.returned (.tuple #[vs (esc' s.data.toList), .int .i64 0])
    rw [show vs (esc' s.data.toList) = .string x from congrArg Value.string hx2]
    rfl
set_option maxRecDepth 100000 in
theorem RUnescapePath_walk (s : ByteArray) (hs : s.size ≤ 1048576) (w : World) (hT : TK w) : Calls Tryz.prog 69 #[.string s] w fun e w' => e = .returned (.tuple #[vs (upT s.data.toList), .int .i64 (upE s.data.toList)]) ∧ Up w w' := by
  have HU := Hid.of (plain_walk s hs w)
  have HC := fun (p : ByteArray) w' => fun (u : Up w w') => Hid.of (RCheckPath_walk p w' (hT.up u))
  have HT : Hid (upT s.data.toList = (match une s.data.toList with | none => [] | some p => if (maj p).isSome then p else []) ∧ upE s.data.toList = (match une s.data.toList with | none => 112 | some p => majE p)) := ⟨rfl, rfl⟩
  have HE : Hid (∀ p, majE p = if (maj p).isSome then 0 else 110) := fun _ => rfl
  clear hT
  go_enter Tryz.func69, Tryz.ntmps69
  go_wp2_with fail
  refine HU.out.mono ?_
  rintro e w1 ⟨x, rfl, hx, u1⟩
  have H1 := Hid.of u1
  have HXX := Hid.of hx
  clear u1 HU hx
  cases hm : une s.data.toList with
  | none =>
    rw [hm] at HT
    clear hm
    generalize (⟨x.toArray⟩ : ByteArray) = xs at *
    dsimp only [Option.isSome]
    go_wp2
    go_ret2
    refine ⟨?_, H1.out⟩
    rw [HT.out.1, HT.out.2]
    rfl
  | some p =>
    have hxp := HXX.out p hm
    subst hxp
    rw [hm] at HT
    clear hm HXX
    obtain ⟨xs, hx1, hx2⟩ := ba_ex x
    rw [hx2]
    have HCk := HC xs w1 H1.out
    rw [hx1] at HCk
    have HEx := Hid.of (HE.out x)
    have HT1 := Hid.of (show upT s.data.toList = if (maj x).isSome then x else [] from HT.out.1)
    have HT2 := Hid.of (show upE s.data.toList = majE x from HT.out.2)
    clear HC HE
    dsimp only [Option.isSome]
    cases hp : maj x with
    | none =>
      rw [hp] at HT1 HEx
      rw [HEx.out] at HCk
      clear hp
      go_wp2_with fail
      refine (HCk.out).mono ?_
      rintro e w2 ⟨rfl, u2⟩
      have H2 := Hid.of (H1.out.trans u2)
      have Hu2 := Hid.of u2
      clear u2
      dsimp only
      go_wp2
      go_ret2
      refine ⟨?_, H2.out⟩
      rw [HT1.out, HT2.out]
      show _ = Ending.returned (.tuple #[vs [], .int .i64 (majE x)])
      rw [HEx.out]
      rfl
    | some q =>
      rw [hp] at HT1 HEx
      rw [HEx.out] at HCk
      clear hp
      go_wp2_with fail
      refine (HCk.out).mono ?_
      rintro e w2 ⟨rfl, u2⟩
      have H2 := Hid.of (H1.out.trans u2)
      have Hu2 := Hid.of u2
      clear u2
      dsimp only
      go_wp2
      go_ret2
      refine ⟨?_, H2.out⟩
      rw [HT1.out, HT2.out]
      show _ = Ending.returned (.tuple #[vs x, .int .i64 (majE x)])
      rw [HEx.out, show vs x = .string xs from congrArg Value.string hx2]
      rfl
set_option maxRecDepth 100000 in
theorem RUnescapeVersion_walk (s : ByteArray) (hs : s.size ≤ 1048576) (w : World) : Calls Tryz.prog 73 #[.string s] w fun e w' => e = .returned (.tuple #[vs (uvT s.data.toList), .int .i64 (uvE s.data.toList)]) ∧ Up w w' := by
  have HU := Hid.of (plain_walk s hs w)
  have HC := fun (p : ByteArray) w' => Hid.of (RCheckVersion_walk p w')
  have HT : Hid (uvT s.data.toList = (match une s.data.toList with | none => [] | some p => if (ver p).isSome then p else []) ∧ uvE s.data.toList = (match une s.data.toList with | none => 112 | some p => verE p)) := ⟨rfl, rfl⟩
  have HE : Hid (∀ p, verE p = if (ver p).isSome then 0 else 111) := fun _ => rfl
  go_enter Tryz.func73, Tryz.ntmps73
  go_wp2_with fail
  refine HU.out.mono ?_
  rintro e w1 ⟨x, rfl, hx, u1⟩
  have H1 := Hid.of u1
  have HXX := Hid.of hx
  clear u1 HU hx
  cases hm : une s.data.toList with
  | none =>
    rw [hm] at HT
    clear hm
    generalize (⟨x.toArray⟩ : ByteArray) = xs at *
    dsimp only [Option.isSome]
    go_wp2
    go_ret2
    refine ⟨?_, H1.out⟩
    rw [HT.out.1, HT.out.2]
    rfl
  | some p =>
    have hxp := HXX.out p hm
    subst hxp
    rw [hm] at HT
    clear hm HXX
    obtain ⟨xs, hx1, hx2⟩ := ba_ex x
    rw [hx2]
    have HCk := HC xs w1 
    rw [hx1] at HCk
    have HEx := Hid.of (HE.out x)
    have HT1 := Hid.of (show uvT s.data.toList = if (ver x).isSome then x else [] from HT.out.1)
    have HT2 := Hid.of (show uvE s.data.toList = verE x from HT.out.2)
    clear HC HE
    dsimp only [Option.isSome]
    cases hp : ver x with
    | none =>
      rw [hp] at HT1 HEx
      rw [HEx.out] at HCk
      clear hp
      go_wp2_with fail
      refine (HCk.out).mono ?_
      rintro e w2 ⟨rfl, u2⟩
      have H2 := Hid.of (H1.out.trans u2)
      have Hu2 := Hid.of u2
      clear u2
      dsimp only
      go_wp2
      go_ret2
      refine ⟨?_, H2.out⟩
      rw [HT1.out, HT2.out]
      show _ = Ending.returned (.tuple #[vs [], .int .i64 (verE x)])
      rw [HEx.out]
      rfl
    | some q =>
      rw [hp] at HT1 HEx
      rw [HEx.out] at HCk
      clear hp
      go_wp2_with fail
      refine (HCk.out).mono ?_
      rintro e w2 ⟨rfl, u2⟩
      have H2 := Hid.of (H1.out.trans u2)
      have Hu2 := Hid.of u2
      clear u2
      dsimp only
      go_wp2
      go_ret2
      refine ⟨?_, H2.out⟩
      rw [HT1.out, HT2.out]
      show _ = Ending.returned (.tuple #[vs x, .int .i64 (verE x)])
      rw [HEx.out, show vs x = .string xs from congrArg Value.string hx2]
      rfl
end Go.Proofs.YtnciglpdjpckiaaGreatDoor
