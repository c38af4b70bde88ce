import Derived.Test.YtnciglpdjpckiaaGreatDoorJCff0
import Derived.Test.YtnciglpdjpckiaaGreatDoorJCff1
import Derived.Test.YtnciglpdjpckiaaGreatDoorJCft0
import Derived.Test.YtnciglpdjpckiaaGreatDoorJCft1
import Derived.Test.YtnciglpdjpckiaaGreatDoorK8
import Derived.Test.YtnciglpdjpckiaaGreatDoorKA
import Derived.Test.YtnciglpdjpckiaaGreatDoorRb
namespace Go.Proofs.YtnciglpdjpckiaaGreatDoor
open Go.RowKit Go.Shelf TextNum ModNum
theorem SplitR_walk (s : ByteArray) (w : World) : Calls Tryz.prog 66 #[.string s] w (SR s.data.toList w) := by
  by_cases hbad : 128 < s.size ∨ s.data.toList.head? ≠ some 118
  · exact Split_bad s w hbad
  · have hs : s.size ≤ 128 := by rcases Nat.lt_or_ge 128 s.size with h | h; exact absurd (.inl h) hbad; exact h
    have hh : s.data.toList.head? = some 118 := Decidable.not_not.1 (fun h => hbad (.inr h))
    cases hinc : sfx INC (s.data.toList.drop 1) with
    | false =>
      by_cases h45 : (45 : UInt8) ∈ vcore s.data.toList
      · exact Split_f1 s w hs hh hinc h45
      · exact Split_f0 s w hs hh hinc h45
    | true =>
      by_cases h45 : (45 : UInt8) ∈ vcore s.data.toList
      · exact Split_t1 s w hs hh hinc h45
      · exact Split_t0 s w hs hh hinc h45
theorem cmpV_on {a b : List UInt8} {q : Prt} (ha : ver a = some q) (hb : ver b = none) : cmpV a b = 1 := by
  obtain ⟨n0, n1, n2, h2⟩ := vp_n a
  have hva : vp a = q := by unfold vp; rw [ha]; rfl
  have hvb : vp b = zp := by unfold vp; rw [hb]; rfl
  rw [hva] at h2
  have hk := (ver_num ha).2
  unfold vok at hk
  rw [h2] at hk
  simp only [Bool.and_eq_true, List.all_cons] at hk
  have hn0 := hk.1.1.1
  have hlen : 0 < n0.length := by
    unfold isNum at hn0
    simp only [Bool.and_eq_true, Bool.or_eq_true, beq_iff_eq, decide_eq_true_eq] at hn0
    omega
  have hu : cmpU n0 [] = 1 := by
    unfold cmpU cmpN
    simp [hlen]
  show cmpP (vp a) (vp b) = 1
  unfold cmpP
  rw [hva, hvb, h2]
  rw [show zp.n = [[], [], []] from rfl, cmp3_eq, hu]
  rfl
theorem ver_bounds {l : List UInt8} {q : Prt} (h : ver l = some q) : (∀ x ∈ q.n, x.length ≤ 1048576) ∧ q.ws.length ≤ 1048576 ∧ ∀ x ∈ q.ws, isWrd x = true ∧ x.length ≤ 1048576 := by
  have hl := (ver_len h).1
  have hk := (ver_num h).2
  have hq : q = vprt l := by
    unfold ver at h
    split at h
    · cases h
    · split at h
      · exact (Option.some.inj h).symm
      · cases h
  have hvc : (vcore l).length ≤ 128 := by
    have h5 : (l.drop 1).length ≤ 128 := by rw [List.length_drop]; omega
    have h6 : ∀ p l : List UInt8, (tsf p l).length ≤ l.length := fun p l => by
      unfold tsf
      by_cases h : sfx p l = true
      · rw [if_pos h]; exact List.length_take_le' _ _
      · rw [if_neg h]; exact Nat.le_refl _
    exact Nat.le_trans (h6 INC _) h5
  have hbh : (bhd 45 (vcore l)).length ≤ 128 := by
    by_cases h45 : (45 : UInt8) ∈ vcore l
    · have := congrArg List.length (cut_eq h45)
      simp only [List.length_append, List.length_cons] at this
      omega
    · rw [bhd_miss h45]; simp
  have hws : q.ws.length ≤ 1048576 ∧ ∀ x ∈ q.ws, x.length ≤ 1048576 := by
    rw [hq]
    show (if 45 ∈ vcore l then pcs 46 (bhd 45 (vcore l)) else []).length ≤ _ ∧ ∀ x ∈ (if 45 ∈ vcore l then pcs 46 (bhd 45 (vcore l)) else []), _
    split
    · refine ⟨by have := pcs_cnt 46 (bhd 45 (vcore l)); omega, fun x hx => ?_⟩
      have := pcs_sub (c := 46) hx
      omega
    · exact ⟨by simp, fun x hx => by cases hx⟩
  refine ⟨fun x hx => ?_, hws.1, fun x hx => ⟨?_, hws.2 x hx⟩⟩
  · rw [hq] at hx
    have := pcs_sub (c := 46) (show x ∈ pcs 46 (ahd 45 (vcore l)) from hx)
    have h2 := ahd_le 45 (vcore l)
    omega
  · unfold vok at hk
    simp only [Bool.and_eq_true] at hk
    exact List.all_eq_true.1 hk.1.2 x hx
end Go.Proofs.YtnciglpdjpckiaaGreatDoor
namespace Go.Proofs.YtnciglpdjpckiaaGreatDoor
open Go.RowKit Go.Shelf TextNum ModNum
set_option maxRecDepth 100000 in
theorem RCheckPath_walk (s : ByteArray) (w : World) (hT : TK w) : Calls Tryz.prog 37 #[.string s] w fun e w' => e = .returned (.int .i64 (majE s.data.toList)) ∧ Up w w' := by
  have HM := Hid.of (Major_walk s w hT)
  clear hT
  go_enter Tryz.func37, Tryz.ntmps37
  go_wp2_with fail
  refine HM.out.mono ?_
  rintro e w1 ⟨m, rfl, _, u1⟩
  have H1 := Hid.of u1
  have HB := Hid.of (show majE s.data.toList = if (maj s.data.toList).isSome then 0 else 110 by unfold majE; cases maj s.data.toList <;> rfl)
  clear u1 HM
  generalize (⟨m.toArray⟩ : ByteArray) = ms at *
  dsimp only
  cases hb : (maj s.data.toList).isSome with
  | true =>
    rw [hb] at HB
    clear hb
    go_wp2
    go_ret
    rw [HB.out]
    exact ⟨rfl, H1.out⟩
  | false =>
    rw [hb] at HB
    clear hb
    go_wp2
    go_ret
    rw [HB.out]
    exact ⟨rfl, H1.out⟩
set_option maxRecDepth 100000 in
theorem RCheckVersion_walk (s : ByteArray) (w : World) : Calls Tryz.prog 39 #[.string s] w fun e w' => e = .returned (.int .i64 (verE s.data.toList)) ∧ Up w w' := by
  have HM := Hid.of (SplitR_walk s w)
  go_enter Tryz.func39, Tryz.ntmps39
  go_wp2_with fail
  refine HM.out.mono ?_
  rintro e w1 ⟨n0, n1, n2, v, inc, rfl, _, ⟨a, n, c, rfl⟩, u1⟩
  have H1 := Hid.of u1
  have HB := Hid.of (show verE s.data.toList = if (ver s.data.toList).isSome then 0 else 111 by unfold verE; cases ver s.data.toList <;> rfl)
  clear u1 HM
  dsimp only
  cases hb : (ver s.data.toList).isSome with
  | true =>
    rw [hb] at HB
    clear hb
    go_wp2
    go_ret
    rw [HB.out]
    exact ⟨rfl, H1.out.alloc _⟩
  | false =>
    rw [hb] at HB
    clear hb
    go_wp2
    go_ret
    rw [HB.out]
    exact ⟨rfl, H1.out.alloc _⟩
set_option maxRecDepth 100000 in
set_option maxHeartbeats 1000000 in
theorem Fits_walk (p s : ByteArray) (w : World) (hT : TK w) : Calls Tryz.prog 51 #[.string p, .string s] w fun e w' => e = .returned (.int .i64 (fte p.data.toList s.data.toList)) ∧ Up w w' := by
  have HM := Hid.of (Major_walk p w hT)
  clear hT
  have HR : Hid (fte p.data.toList s.data.toList = match maj p.data.toList with
    | none => 110
    | some m => match ver s.data.toList with
      | none => 111
      | some q => if fit q m then 0 else 111) := rfl
  go_enter Tryz.func51, Tryz.ntmps51
  go_wp2_with fail
  refine HM.out.mono ?_
  rintro e w1 ⟨m, rfl, hm, u1⟩
  have H1 := Hid.of u1
  clear u1 HM
  cases hmj : maj p.data.toList with
  | none =>
    rw [hmj] at HR
    clear hmj hm
    generalize (⟨m.toArray⟩ : ByteArray) = ms at *
    dsimp only [Option.isSome]
    go_wp2
    go_ret
    rw [HR.out]
    exact ⟨rfl, H1.out⟩
  | some q =>
    have hmq := hm q hmj
    subst hmq
    rw [hmj] at HR
    clear hmj hm
    obtain ⟨ms, hm1, hm2⟩ := ba_ex m
    rw [hm2]
    have HS := Hid.of (SplitR_walk s w1)
    clear hm2
    dsimp only [Option.isSome]
    go_wp2_with fail
    refine HS.out.mono ?_
    rintro e w2 ⟨n0, n1, n2, v, inc, rfl, hq, ⟨a, n, c, rfl⟩, u2⟩
    have H2 := Hid.of (H1.out.trans u2)
    clear u2 HS
    obtain ⟨ns, hn1, hn2⟩ := ba_ex n0
    have HQ := Hid.of hq
    clear hq
    dsimp only
    go_wp2_with (with_reducible show wpList _ _ _ ({ dst := _, op := Op.store 111 _ _, type := _, pos := _, after := _, guard := _ } :: _) _ _; refine Shut.out ?_)
    show wpList _ _ _ _ _ _
    refine wpList_store_at rfl _ _ _ rfl w2.heap.size (at_new w2 111 z5) [.string ⟨n0.toArray⟩, .string ⟨n1.toArray⟩, .string ⟨n2.toArray⟩, .slice a n c, .bool inc] rfl rfl rfl (by kernel_rfl) (one5 _ _ _ _ _ _ _) fun wz hAz hgz => ?_
    have HUz := Hid.of ((H2.out.alloc (.cells z5.toArray 111)).by hgz (fun g hg => by injection hg with hg; have := H2.out.size; omega))
    have k0 := hAz.cell (i := 0) rfl
    have k4 := hAz.cell (i := 4) rfl
    rw [hn2] at k0 hAz
    generalize hb : w2.heap.size = bb at *
    clear hb hgz
    simp only [Act.put]
    cases hv : ver s.data.toList with
    | none =>
      rw [hv] at HR
      clear hv hm1 hn1 hn2
      dsimp only [Option.isSome]
      go_wp2
      go_ret
      rw [HR.out]
      exact ⟨rfl, HUz.out⟩
    | some pq =>
      obtain ⟨e1, _, e3⟩ := HQ.out pq hv
      rw [hv] at HR
      have HF := Hid.of (show fte p.data.toList s.data.toList = if (if m = [] then inc || isLow n0 else decide (n0 = m) && !inc) then 0 else 111 by
        rw [HR.out]
        show (if fit pq m = true then (0 : Int) else 111) = _
        unfold fit
        rw [e1, e3]
        rfl)
      rw [← hm1, ← hn1, isLow_eq] at HF
      clear hv HR e1 e3 hm1 hn1 hn2 HQ
      dsimp only [Option.isSome]
      by_cases hm : ms.data.toList = []
      · have he : ms.toList.isEmpty = true := by rw [Go.Lib.toList_data, hm]; rfl
        rw [if_pos hm] at HF
        clear hm
        cases h48 : (ns.toList == [48]) with
        | true =>
          rw [h48] at HF
          go_wp2
          go_ret
          rw [HF.out]
          exact ⟨by simp, HUz.out⟩
        | false =>
          rw [h48] at HF
          cases h49 : (ns.toList == [49]) with
          | true =>
            rw [h49] at HF
            go_wp2
            go_ret
            rw [HF.out]
            exact ⟨by simp, HUz.out⟩
          | false =>
            rw [h49] at HF
            cases inc with
            | true =>
              go_wp2
              go_ret
              rw [HF.out]
              exact ⟨rfl, HUz.out⟩
            | false =>
              go_wp2
              go_ret
              rw [HF.out]
              exact ⟨rfl, HUz.out⟩
      · have he : ms.toList.isEmpty = false := by
          rw [Go.Lib.toList_data]
          cases h : ms.data.toList with
          | nil => exact absurd h hm
          | cons a r => rfl
        have hqq : (ns.toList == ms.toList) = decide (ns.data.toList = ms.data.toList) := by
          rw [Go.Lib.toList_data, Go.Lib.toList_data, Bool.eq_iff_iff]
          simp
        rw [if_neg hm] at HF
        clear hm
        generalize decide (ns.data.toList = ms.data.toList) = bq at *
        cases bq with
        | true =>
          cases inc with
          | true =>
            go_wp2
            go_ret
            rw [HF.out]
            exact ⟨rfl, HUz.out⟩
          | false =>
            go_wp2
            go_ret
            rw [HF.out]
            exact ⟨rfl, HUz.out⟩
        | false =>
          go_wp2
          go_ret
          rw [HF.out]
          exact ⟨rfl, HUz.out⟩
theorem fte_len {p v : List UInt8} (h : fte p v = 0) : p.length ≤ 255 ∧ v.length ≤ 128 := by
  unfold fte at h
  cases hm : maj p with
  | none => rw [hm] at h; cases h
  | some m =>
    rw [hm] at h
    cases hv : ver v with
    | none => rw [hv] at h; cases h
    | some q =>
      constructor
      · unfold maj at hm
        split at hm
        · cases hm
        · omega
      · unfold ver at hv
        split at hv
        · cases hv
        · omega
set_option maxRecDepth 100000 in
theorem RKey_walk (p s : ByteArray) (w : World) (hT : TK w) : Calls Tryz.prog 25 #[.string p, .string s] w fun e w' => e = .returned (.tuple #[.string ⟨(keyT p.data.toList s.data.toList).toArray⟩, .int .i64 (fte p.data.toList s.data.toList)]) ∧ Up w w' := by
  have HF := Hid.of (Fits_walk p s w hT)
  have HK : Hid (keyT p.data.toList s.data.toList = if fte p.data.toList s.data.toList = 0 then p.data.toList ++ 64 :: s.data.toList else []) := rfl
  clear hT
  have HL := Hid.of (fun h => fte_len (p := p.data.toList) (v := s.data.toList) h)
  rw [len_of, len_of] at HL
  generalize fte p.data.toList s.data.toList = f at *
  go_enter Tryz.func25, Tryz.ntmps25
  go_wp2_with fail
  refine (HF.out).mono ?_
  rintro e w1 ⟨rfl, u1⟩
  have H1 := Hid.of (u1)
  have Hu1 := Hid.of u1
  clear u1
  dsimp only
  by_cases h0 : f = 0
  · subst h0
    obtain ⟨l1, l2⟩ := HL.out rfl
    rw [if_pos rfl] at HK
    have k1 : ¬ 9223372036854775807 < p.size + 1 := by omega
    have k2 : ¬ 9223372036854775807 < p.size + 1 + s.size := by omega
    go_wp2
    go_ret2
    refine ⟨?_, H1.out⟩
    rw [HK.out]
    refine congrArg (fun z => Ending.returned (.tuple #[.string z, .int .i64 0])) ?_
    rw [ba_app, ba_app]
    simp
  · have hz : (f == 0) = false := by simpa using h0
    rw [if_neg h0] at HK
    clear h0
    go_wp2
    go_ret2
    refine ⟨?_, H1.out⟩
    rw [HK.out]
    rfl
end Go.Proofs.YtnciglpdjpckiaaGreatDoor
