import Derived.Test.YtaphjbcnnkoffaaGreatDoorCf
namespace Go.Proofs.YtaphjbcnnkoffaaGreatDoor
open Go.RowKit Go.Shelf TextNum ModNum
set_option maxRecDepth 100000 in
set_option maxHeartbeats 8000000 in
theorem Split_f0 (s : ByteArray) (w : World) (hs : s.size ≤ 128) (hh : s.data.toList.head? = some 118) (hinc : sfx INC (s.data.toList.drop 1) = false) (h45 : ¬ (45 : UInt8) ∈ vcore s.data.toList) : Calls Tryz.prog 37 #[.string s] w (SR s.data.toList w) := by
  have HA0 : Hid (At ((w.alloc (.cells z5.toArray 92)).alloc (.cells z5.toArray 92)) w.heap.size 92 z5) := At.up (at_new w 92 z5) ((Up.refl _).alloc _)
  have HP0 : Hid (At ((w.alloc (.cells z5.toArray 92)).alloc (.cells z5.toArray 92)) (w.heap.size + 1) 92 z5) := by
    have := at_new (w.alloc (.cells z5.toArray 92)) 92 z5
    rw [alloc_size] at this
    exact this
  have HU0 := Hid.of (((Up.refl w).alloc (.cells z5.toArray 92)).alloc (.cells z5.toArray 92))
  have h0 : 0 < s.size := by
    rcases Nat.eq_zero_or_pos s.size with h | h
    · rw [szero h] at hh; cases hh
    · exact h
  have he : s.toList.isEmpty = false := eno (by omega)
  have h1 : (s[0].toNat : Int) = 118 := by
    rw [head_of h0] at hh
    rw [Option.some.inj hh]; rfl
  have hlz : ¬ (128 : Int) < (s.size : Int) := by omega
  have h0z : (0 : Int) < (s.size : Int) := by omega
  have h1z : (1 : Int) ≤ (s.size : Int) := by omega
  have HEn := fun w' => Hid.of (ends_walk (s.extract 1 s.size) (by rw [Go.Lib.size_eq, Go.Lib.extract_to_end, List.length_drop, len_of]; omega) w')
  rw [Go.Lib.extract_to_end] at HEn
  have HVl := Hid.of (show (vcore s.data.toList).length ≤ 128 by
    have h5 : (s.data.toList.drop 1).length ≤ 128 := by rw [List.length_drop, len_of]; omega
    have h6 : ∀ p l : List UInt8, (tsf p l).length ≤ l.length := fun p l => by
      unfold tsf
      by_cases h : sfx p l = true
      · rw [if_pos h]; exact List.length_take_le' _ _
      · rw [if_neg h]; exact Nat.le_refl _
    exact Nat.le_trans (h6 INC _) h5)
  have HVr : Hid (ver s.data.toList = if (pcs 46 (ahd 45 (vcore s.data.toList))).length = 3 ∧ vok ⟨pcs 46 (ahd 45 (vcore s.data.toList)), if 45 ∈ vcore s.data.toList then pcs 46 (bhd 45 (vcore s.data.toList)) else [], sfx INC (s.data.toList.drop 1)⟩ = true then some ⟨pcs 46 (ahd 45 (vcore s.data.toList)), if 45 ∈ vcore s.data.toList then pcs 46 (bhd 45 (vcore s.data.toList)) else [], sfx INC (s.data.toList.drop 1)⟩ else none) := by
    unfold ver
    rw [if_neg (by rintro (h | h); exact h hh; rw [len_of] at h; omega)]
    rfl
  clear hh
  have HQ := Hid.of (show (s.extract 1 s.size).data.toList = vcore s.data.toList by rw [Go.Lib.extract_to_end]; unfold vcore tsf; rw [if_neg (by rw [hinc]; simp)])
  rw [hinc] at HEn HVr
  clear hinc
  go_enter Tryz.func37, Tryz.ntmps37
  go_wp2_with fail
  rw [z5lit]
  generalize (w.alloc (.cells z5.toArray 92)).alloc (.cells z5.toArray 92) = W0 at *
  refine (HEn W0).out.mono ?_
  rintro e w1 ⟨rfl, u1⟩
  have HU := Hid.of (HU0.out.trans u1)
  have HP := Hid.of (HP0.out.up u1)
  have HR := Hid.of (HA0.out.up u1)
  clear u1 HU0 HP0 HA0
  dsimp only
  go_wp2_with fail
  generalize s.extract 1 s.size = q at *
  have hqs : q.size ≤ 128 := by rw [Go.Lib.size_eq, HQ.out]; exact HVl.out
  obtain ⟨vc, hvc⟩ : ∃ vc, vcore s.data.toList = vc := ⟨_, rfl⟩
  rw [hvc] at HQ HVr h45
  obtain ⟨k, hk⟩ : ∃ k : ByteArray, ⟨(ahd 45 vc).toArray⟩ = k := ⟨_, rfl⟩
  have HAh := fun w' => Hid.of (ahead_walk q 45 (by omega) w')
  rw [HQ.out, hk] at HAh
  have HKd := Hid.of (show k.data.toList = ahd 45 vc by rw [← hk])
  have HKq := Hid.of (dash_facts HQ.out HKd.out hqs)
  obtain ⟨ns, hns⟩ : ∃ ns, pcs 46 (ahd 45 vc) = ns := ⟨_, rfl⟩
  rw [hns] at HVr
  have HPn := fun w' => Hid.of (Pieces_walk k 46 (by have := (dash_facts HQ.out HKd.out hqs).2.2.2; have h2 := dash_le HQ.out HKd.out; omega) w')
  rw [HKd.out, hns] at HPn
  have HLn := Hid.of (show ∀ x ∈ ns, x.length ≤ 1048576 by
    rw [← hns]
    exact fun x hx => by have := pcs_sub (c := 46) hx; have h2 := dash_le HQ.out HKd.out; rw [← HKd.out, len_of] at this; omega)
  clear hvc hk hns
  go_wp2_with fail
  refine (HAh w1).out.mono ?_
  rintro e w2 ⟨rfl, u2⟩
  have HU2 := Hid.of (HU.out.trans u2)
  have HP2 := Hid.of (HP.out.up u2)
  have HR2 := Hid.of (HR.out.up u2)
  clear u2 HU HP HR
  dsimp only
  have hk1 : q.size = k.size := HKq.out.2.2.1 h45
  have hk1z : ¬ (k.size : Int) < (q.size : Int) := by omega
  have HVer := Hid.of (show ver s.data.toList = _ by rw [HVr.out, if_neg h45])
  have HWs := Hid.of (show ([] : List (List UInt8)).all isWrd = true from rfl)
  have HSl := Hid.of (slS_nil w2)
  have HU := Hid.of HU2.out
  have HP := Hid.of HP2.out
  have HR := Hid.of HR2.out
  clear h45 hk1 HU2 HP2 HR2
  go_wp2_with fail
  refine (HPn w2).out.mono ?_
  rintro e w5 ⟨v7, rfl, hO5, u5⟩
  have hS5 := hO5.sl
  obtain ⟨a7, c7, rfl⟩ := hS5.len
  have HS5 := Hid.of hS5
  have HU5 := Hid.of (HU.out.trans u5)
  have HP5 := Hid.of (HP.out.up u5)
  have HR5 := Hid.of (HR.out.up u5)
  have HSl5 := Hid.of (HSl.out.up u5)
  have HB5 := Hid.of (And.intro (fun g hg => (World.ownsRow.lt hO5 g hg).1) (lt_of_at HP.out))
  clear u5 hO5 hS5 HU HP HR HSl
  dsimp only
  by_cases h3 : ns.length = 3
  · obtain ⟨n0, n1, n2, rfl⟩ : ∃ n0 n1 n2, ns = [n0, n1, n2] := by
      match ns, h3 with
      | [x, y, z], _ => exact ⟨x, y, z, rfl⟩
    clear h3
    obtain ⟨g7, o7, rfl, d0⟩ := HS5.out.get (i := 0) (by simp)
    obtain ⟨g1, o1, e1, d1⟩ := HS5.out.get (i := 1) (by simp)
    obtain ⟨g2, o2, e2, d2⟩ := HS5.out.get (i := 2) (by simp)
    injection e1 with e1
    injection e1 with e1 e1b
    injection e2 with e2
    injection e2 with e2 e2b
    subst e1 e1b e2 e2b
    simp only [List.getElem_cons_zero, List.getElem_cons_succ, Nat.add_zero] at d0 d1 d2
    have HD := Hid.of (And.intro d0 (And.intro d1 d2))
    have HLe := Hid.of (HLn.out)
    have HN0 := fun w' => Hid.of (number_walk ⟨n0.toArray⟩ (by rw [size_str]; exact HLe.out n0 (by simp)) w')
    have HN1 := fun w' => Hid.of (number_walk ⟨n1.toArray⟩ (by rw [size_str]; exact HLe.out n1 (by simp)) w')
    have HN2 := fun w' => Hid.of (number_walk ⟨n2.toArray⟩ (by rw [size_str]; exact HLe.out n2 (by simp)) w')
    have HLow := Hid.of (isLow_eq ⟨n0.toArray⟩)
    clear d0 d1 d2
    obtain ⟨m0, hm0⟩ : ∃ m : ByteArray, ⟨n0.toArray⟩ = m := ⟨_, rfl⟩
    obtain ⟨m1, hm1⟩ : ∃ m : ByteArray, ⟨n1.toArray⟩ = m := ⟨_, rfl⟩
    obtain ⟨m2, hm2⟩ : ∃ m : ByteArray, ⟨n2.toArray⟩ = m := ⟨_, rfl⟩
    simp only at HN0 HN1 HN2 HLow
    rw [hm0] at HN0 HD HLow
    rw [hm1] at HN1 HD
    rw [hm2] at HN2 HD
    have HMs := Hid.of (And.intro hm0 (And.intro hm1 hm2))
    clear hm0 hm1 hm2
    have hHD : HDs w5 g7 o7 m0 m1 m2 := HD.out
    go_wp2
    go_loopw [8] (fun v8 wr => ∃ i : Nat, v8 = .int .i64 (i : Int) ∧ i ≤ 3 ∧ Hid ((Up w wr ∧ At wr w.heap.size 92 z5 ∧ SlS wr (.slice none 0 0) ([] : List (List UInt8)) ∧ HDs wr g7 o7 m0 m1 m2) ∧ (i = 0 → At wr (w.heap.size + 1) 92 [.string ⟨#[]⟩, .string ⟨#[]⟩, .string ⟨#[]⟩, (.slice none 0 0), .bool false]) ∧ (i = 1 → At wr (w.heap.size + 1) 92 [.string m0, .string ⟨#[]⟩, .string ⟨#[]⟩, (.slice none 0 0), .bool false] ∧ isNum n0 = true) ∧ (i = 2 → At wr (w.heap.size + 1) 92 [.string m0, .string m1, .string ⟨#[]⟩, (.slice none 0 0), .bool false] ∧ isNum n0 = true ∧ isNum n1 = true) ∧ (i = 3 → At wr (w.heap.size + 1) 92 [.string m0, .string m1, .string m2, (.slice none 0 0), .bool false] ∧ isNum n0 = true ∧ isNum n1 = true ∧ isNum n2 = true))) (fun v8 _ => 3 - (intOf v8).toNat)
    case atStart => exact ⟨0, rfl, by omega, ⟨HU5.out, HR5.out, HSl5.out, hHD⟩, fun _ => HP5.out, fun h => by omega, fun h => by omega, fun h => by omega⟩
    case round =>
      obtain ⟨i, rfl, hi, hI⟩ := hrel
      have HG7 := Hid.of (HB5.out.1 g7 rfl)
      obtain rfl | rfl | rfl | rfl : i = 0 ∨ i = 1 ∨ i = 2 ∨ i = 3 := by omega
      · have HPk := Hid.of (hI.out.2.1 rfl)
        have HFk := Hid.of (trivial)
        have HIk := Hid.of hI.out.1
        have hd := HIk.out.2.2.2.1
        clear hI hi
        go_wp2_with fail
        refine (HN0 _).out.mono ?_
        rintro e w6 ⟨rfl, u6⟩
        have HU6 := Hid.of (HIk.out.1.trans u6)
        have HP6 := Hid.of (HPk.out.up u6)
        have HR6 := Hid.of (HIk.out.2.1.up u6)
        have HSl6 := Hid.of (HIk.out.2.2.1.up u6)
        have HD6 := Hid.of (HIk.out.2.2.2.up u6)
        have HSz6 := Hid.of (HIk.out.1.size)
        clear u6 hd HPk HIk
        dsimp only
        cases hn : isNum n0 with
        | false =>
          have HV := Hid.of (show ver s.data.toList = none by rw [HVer.out]; exact if_neg (by simp [vok, hn]))
          clear hn
          go_wp2_with (with_reducible show wpList _ _ _ ({ dst := _, op := Op.load 92 _, type := _, pos := _, after := _, guard := _ } :: _) _ _; refine Shut.out ?_)
          show wpList _ _ _ _ _ _
          refine wpList_load_mid rfl _ _ rfl (w.heap.size + 1) 0 rfl [.string ⟨#[]⟩, .string ⟨#[]⟩, .string ⟨#[]⟩, (.slice none 0 0), .bool false] _ HP6.out.range Tryz.underlying92 rfl (by kernel_rfl) ?_
          simp only [Act.put, List.setIfInBounds_toArray, List.set_cons_zero, List.set_cons_succ]
          go_wp2_with (with_reducible show wpList _ _ _ ({ dst := _, op := Op.store 92 _ _, type := _, pos := _, after := _, guard := _ } :: _) _ _; refine Shut.out ?_)
          show wpList _ _ _ _ _ _
          refine wpList_store_at rfl _ _ _ rfl w.heap.size HR6.out [.string ⟨#[]⟩, .string ⟨#[]⟩, .string ⟨#[]⟩, (.slice none 0 0), .bool false] rfl rfl rfl (by kernel_rfl) (one5 _ _ _ _ _ _ _) fun wz hAz hgz => ?_
          have HAz := Hid.of hAz
          have HUz := Hid.of (HU6.out.by hgz (fun g hg => by injection hg with hg; omega))
          clear hAz hgz
          simp only [Act.put]
          go_wp2
          refine bodyPost_ret (result_cell_tmp Tryz.results37 _ _ w.heap.size [.string ⟨#[]⟩, .string ⟨#[]⟩, .string ⟨#[]⟩, (.slice none 0 0), .bool false] _ rfl rfl HAz.out.range Tryz.underlying92 rfl (by kernel_rfl)) rfl ?_
          exact SR.no HV.out [] [] [] none 0 0 false HUz.out
        | true =>
          have HNk := Hid.of hn
          have cS := HP6.out.cell (i := 0) rfl
          have tS := HP6.out.thaw 0
          have hd := HD6.out.1
          clear hn
          go_wp2
          go_roundw
          case rel =>
            refine ⟨1, rfl, by omega, ⟨HU6.out.by (grown_at w6 (w.heap.size + 1) 0 _) (fun g hg => by injection hg with hg; omega), HR6.out.by (grown_at w6 (w.heap.size + 1) 0 _) (by intro h; injection h with h; omega), HSl6.out.by (grown_at w6 (w.heap.size + 1) 0 _) (fun g hg h => by injection h with h; cases hg), HD6.out.set (by have := HG7.out; have := HB5.out.2; intro h; omega)⟩, ?_⟩
            have hset := HP6.out.set 0 (.string m0)
            exact ⟨fun h => absurd h (by decide), fun _ => ⟨hset, HNk.out⟩, fun h => absurd h (by decide), fun h => absurd h (by decide)⟩
          case measure => simp [intOf]
      · have HPk := Hid.of ((hI.out.2.2.1 rfl).1)
        have HFk := Hid.of ((hI.out.2.2.1 rfl).2)
        have HIk := Hid.of hI.out.1
        have hd := HIk.out.2.2.2.2.1
        clear hI hi
        go_wp2_with fail
        refine (HN1 _).out.mono ?_
        rintro e w6 ⟨rfl, u6⟩
        have HU6 := Hid.of (HIk.out.1.trans u6)
        have HP6 := Hid.of (HPk.out.up u6)
        have HR6 := Hid.of (HIk.out.2.1.up u6)
        have HSl6 := Hid.of (HIk.out.2.2.1.up u6)
        have HD6 := Hid.of (HIk.out.2.2.2.up u6)
        have HSz6 := Hid.of (HIk.out.1.size)
        clear u6 hd HPk HIk
        dsimp only
        cases hn : isNum n1 with
        | false =>
          have HV := Hid.of (show ver s.data.toList = none by rw [HVer.out]; exact if_neg (by simp [vok, hn]))
          clear hn
          go_wp2_with (with_reducible show wpList _ _ _ ({ dst := _, op := Op.load 92 _, type := _, pos := _, after := _, guard := _ } :: _) _ _; refine Shut.out ?_)
          show wpList _ _ _ _ _ _
          refine wpList_load_mid rfl _ _ rfl (w.heap.size + 1) 0 rfl [.string m0, .string ⟨#[]⟩, .string ⟨#[]⟩, (.slice none 0 0), .bool false] _ HP6.out.range Tryz.underlying92 rfl (by kernel_rfl) ?_
          simp only [Act.put, List.setIfInBounds_toArray, List.set_cons_zero, List.set_cons_succ]
          go_wp2_with (with_reducible show wpList _ _ _ ({ dst := _, op := Op.store 92 _ _, type := _, pos := _, after := _, guard := _ } :: _) _ _; refine Shut.out ?_)
          show wpList _ _ _ _ _ _
          refine wpList_store_at rfl _ _ _ rfl w.heap.size HR6.out [.string m0, .string ⟨#[]⟩, .string ⟨#[]⟩, (.slice none 0 0), .bool false] rfl rfl rfl (by kernel_rfl) (one5 _ _ _ _ _ _ _) fun wz hAz hgz => ?_
          have HAz := Hid.of hAz
          have HUz := Hid.of (HU6.out.by hgz (fun g hg => by injection hg with hg; omega))
          clear hAz hgz
          simp only [Act.put]
          go_wp2
          refine bodyPost_ret (result_cell_tmp Tryz.results37 _ _ w.heap.size [.string m0, .string ⟨#[]⟩, .string ⟨#[]⟩, (.slice none 0 0), .bool false] _ rfl rfl HAz.out.range Tryz.underlying92 rfl (by kernel_rfl)) rfl ?_
          exact SR.no HV.out m0.data.toList [] [] none 0 0 false HUz.out
        | true =>
          have HNk := Hid.of hn
          have cS := HP6.out.cell (i := 1) rfl
          have tS := HP6.out.thaw 1
          have hd := HD6.out.2.1
          clear hn
          go_wp2
          go_roundw
          case rel =>
            refine ⟨2, rfl, by omega, ⟨HU6.out.by (grown_at w6 (w.heap.size + 1) 1 _) (fun g hg => by injection hg with hg; omega), HR6.out.by (grown_at w6 (w.heap.size + 1) 1 _) (by intro h; injection h with h; omega), HSl6.out.by (grown_at w6 (w.heap.size + 1) 1 _) (fun g hg h => by injection h with h; cases hg), HD6.out.set (by have := HG7.out; have := HB5.out.2; intro h; omega)⟩, ?_⟩
            have hset := HP6.out.set 1 (.string m1)
            exact ⟨fun h => absurd h (by decide), fun h => absurd h (by decide), fun _ => ⟨hset, HFk.out, HNk.out⟩, fun h => absurd h (by decide)⟩
          case measure => simp [intOf]
      · have HPk := Hid.of ((hI.out.2.2.2.1 rfl).1)
        have HFk := Hid.of ((hI.out.2.2.2.1 rfl).2)
        have HIk := Hid.of hI.out.1
        have hd := HIk.out.2.2.2.2.2
        clear hI hi
        go_wp2_with fail
        refine (HN2 _).out.mono ?_
        rintro e w6 ⟨rfl, u6⟩
        have HU6 := Hid.of (HIk.out.1.trans u6)
        have HP6 := Hid.of (HPk.out.up u6)
        have HR6 := Hid.of (HIk.out.2.1.up u6)
        have HSl6 := Hid.of (HIk.out.2.2.1.up u6)
        have HD6 := Hid.of (HIk.out.2.2.2.up u6)
        have HSz6 := Hid.of (HIk.out.1.size)
        clear u6 hd HPk HIk
        dsimp only
        cases hn : isNum n2 with
        | false =>
          have HV := Hid.of (show ver s.data.toList = none by rw [HVer.out]; exact if_neg (by simp [vok, hn]))
          clear hn
          go_wp2_with (with_reducible show wpList _ _ _ ({ dst := _, op := Op.load 92 _, type := _, pos := _, after := _, guard := _ } :: _) _ _; refine Shut.out ?_)
          show wpList _ _ _ _ _ _
          refine wpList_load_mid rfl _ _ rfl (w.heap.size + 1) 0 rfl [.string m0, .string m1, .string ⟨#[]⟩, (.slice none 0 0), .bool false] _ HP6.out.range Tryz.underlying92 rfl (by kernel_rfl) ?_
          simp only [Act.put, List.setIfInBounds_toArray, List.set_cons_zero, List.set_cons_succ]
          go_wp2_with (with_reducible show wpList _ _ _ ({ dst := _, op := Op.store 92 _ _, type := _, pos := _, after := _, guard := _ } :: _) _ _; refine Shut.out ?_)
          show wpList _ _ _ _ _ _
          refine wpList_store_at rfl _ _ _ rfl w.heap.size HR6.out [.string m0, .string m1, .string ⟨#[]⟩, (.slice none 0 0), .bool false] rfl rfl rfl (by kernel_rfl) (one5 _ _ _ _ _ _ _) fun wz hAz hgz => ?_
          have HAz := Hid.of hAz
          have HUz := Hid.of (HU6.out.by hgz (fun g hg => by injection hg with hg; omega))
          clear hAz hgz
          simp only [Act.put]
          go_wp2
          refine bodyPost_ret (result_cell_tmp Tryz.results37 _ _ w.heap.size [.string m0, .string m1, .string ⟨#[]⟩, (.slice none 0 0), .bool false] _ rfl rfl HAz.out.range Tryz.underlying92 rfl (by kernel_rfl)) rfl ?_
          exact SR.no HV.out m0.data.toList m1.data.toList [] none 0 0 false HUz.out
        | true =>
          have HNk := Hid.of hn
          have cS := HP6.out.cell (i := 2) rfl
          have tS := HP6.out.thaw 2
          have hd := HD6.out.2.2
          clear hn
          go_wp2
          go_roundw
          case rel =>
            refine ⟨3, rfl, by omega, ⟨HU6.out.by (grown_at w6 (w.heap.size + 1) 2 _) (fun g hg => by injection hg with hg; omega), HR6.out.by (grown_at w6 (w.heap.size + 1) 2 _) (by intro h; injection h with h; omega), HSl6.out.by (grown_at w6 (w.heap.size + 1) 2 _) (fun g hg h => by injection h with h; cases hg), HD6.out.set (by have := HG7.out; have := HB5.out.2; intro h; omega)⟩, ?_⟩
            have hset := HP6.out.set 2 (.string m2)
            exact ⟨fun h => absurd h (by decide), fun h => absurd h (by decide), fun h => absurd h (by decide), fun _ => ⟨hset, HFk.out.1, HFk.out.2, HNk.out⟩⟩
          case measure => simp [intOf]
      · have HP6 := Hid.of (hI.out.2.2.2.2 rfl).1
        have HF6 := Hid.of (hI.out.2.2.2.2 rfl).2
        have HU6 := Hid.of hI.out.1.1
        have HR6 := Hid.of hI.out.1.2.1
        have HSl6 := Hid.of hI.out.1.2.2.1
        clear hI hi
        have c0 := HP6.out.cell (i := 0) rfl
        have c1 := HP6.out.cell (i := 1) rfl
        have c2 := HP6.out.cell (i := 2) rfl
        have c3 := HP6.out.cell (i := 3) rfl
        have c4 := HP6.out.cell (i := 4) rfl
        have r0 := HR6.out.cell (i := 0) rfl
        have r1 := HR6.out.cell (i := 1) rfl
        have r2 := HR6.out.cell (i := 2) rfl
        have r3 := HR6.out.cell (i := 3) rfl
        have r4 := HR6.out.cell (i := 4) rfl
        have s0 := HR6.out.thaw 0
        have s1 := HR6.out.thaw 1
        have s2 := HR6.out.thaw 2
        have s3 := HR6.out.thaw 3
        have s4 := HR6.out.thaw 4
        go_wp2
        go_region
        go_wp2
        refine bodyPost_ret (result_cell_tmp Tryz.results37 _ _ w.heap.size [.string m0, .string m1, .string m2, (.slice none 0 0), .bool false] _ rfl rfl (At.up (((((HR6.out.set 0 _).set 1 _).set 2 _).set 3 _).set 4 _) ((Up.refl _).drew)).range Tryz.underlying92 rfl (by kernel_rfl)) rfl ?_
        have HUz := (HU6.out.by (set5q _ w.heap.size (.string m0) (.string m1) (.string m2) (.slice none 0 0) (.bool false)) (fun g hg => by injection hg with hg; omega)).drew
        have hsl := (HSl6.out.by (set5q _ w.heap.size (.string m0) (.string m1) (.string m2) (.slice none 0 0) (.bool false)) (fun g hg h => by injection h with h; cases hg)).up ((Up.refl _).drew)
        have hv : ver s.data.toList = some ⟨[n0, n1, n2], ([] : List (List UInt8)), false⟩ := by
          rw [HVer.out]
          exact if_pos ⟨rfl, by simp [vok, HF6.out.1, HF6.out.2.1, HF6.out.2.2, HWs.out]⟩
        refine ⟨n0, n1, n2, (.slice none 0 0), false, by rw [hv, ← HMs.out.1, ← HMs.out.2.1, ← HMs.out.2.2]; rfl, fun q' hq => ?_, ⟨_, _, _, rfl⟩, HUz⟩
        rw [hv] at hq
        obtain rfl := Option.some.inj hq
        exact ⟨rfl, hsl, rfl⟩
  · have h3z : ((ns.length : Int) != 3) = true := by rw [bne_iff_ne]; omega
    have HV := Hid.of (show ver s.data.toList = none by rw [HVer.out]; exact if_neg (fun h => h3 h.1))
    clear h3
    generalize ns.length = nl at *
    go_wp2_with (with_reducible show wpList _ _ _ ({ dst := _, op := Op.load 92 _, type := _, pos := _, after := _, guard := _ } :: _) _ _; refine Shut.out ?_)
    show wpList _ _ _ _ _ _
    refine wpList_load_mid rfl _ _ rfl (w.heap.size + 1) 0 rfl [.string ⟨#[]⟩, .string ⟨#[]⟩, .string ⟨#[]⟩, (.slice none 0 0), .bool false] _ HP5.out.range Tryz.underlying92 rfl (by kernel_rfl) ?_
    simp only [Act.put, List.setIfInBounds_toArray, List.set_cons_zero, List.set_cons_succ]
    go_wp2_with (with_reducible show wpList _ _ _ ({ dst := _, op := Op.store 92 _ _, type := _, pos := _, after := _, guard := _ } :: _) _ _; refine Shut.out ?_)
    show wpList _ _ _ _ _ _
    refine wpList_store_at rfl _ _ _ rfl w.heap.size HR5.out [.string ⟨#[]⟩, .string ⟨#[]⟩, .string ⟨#[]⟩, (.slice none 0 0), .bool false] rfl rfl rfl (by kernel_rfl) (one5 _ _ _ _ _ _ _) fun wz hAz hgz => ?_
    have HAz := Hid.of hAz
    have HUz := Hid.of (HU5.out.by hgz (fun g hg => by injection hg with hg; omega))
    clear hAz hgz
    simp only [Act.put]
    go_wp2
    refine bodyPost_ret (result_cell_tmp Tryz.results37 _ _ w.heap.size [.string ⟨#[]⟩, .string ⟨#[]⟩, .string ⟨#[]⟩, (.slice none 0 0), .bool false] _ rfl rfl HAz.out.range Tryz.underlying92 rfl (by kernel_rfl)) rfl ?_
    exact SR.no HV.out [] [] [] none 0 0 false HUz.out
end Go.Proofs.YtaphjbcnnkoffaaGreatDoor
