import Derived.Test.YtdgpnppnjkpfoaaDoorXr
namespace Go.Proofs.YtdgpnppnjkpfoaaDoor
open Go.RowKit TextNum
theorem vs_data (s : ByteArray) : vs s.data.toList = .string s := by cases s; rfl
theorem paR_no {l : List UInt8} (h : pok l = false) : paR l = .tuple #[.string ⟨#[]⟩, .string ⟨#[]⟩, .int .i64 147] := by unfold paR; rw [if_neg (by rw [h]; simp)]
theorem paR_ok {l : List UInt8} (h : pok l = true) : paR l = .tuple #[vs (pth l), vs (cQ l), .int .i64 0] := by unfold paR; rw [if_pos h]
theorem eaR_no {l : List UInt8} (h : eok l = false) : eaR l = .tuple #[.string ⟨#[]⟩, .int .i64 147] := by unfold eaR; rw [if_neg (by rw [h]; simp)]
theorem eaR_ok {l : List UInt8} (h : eok l = true) : eaR l = .tuple #[vs (esc l), .int .i64 0] := by unfold eaR; rw [if_pos h]
theorem paR_esc {l : List UInt8} (h : eok l = true) : paR (esc l) = .tuple #[vs l, .string ⟨#[]⟩, .int .i64 0] := by
  unfold eok at h
  rw [Bool.and_eq_true] at h
  obtain ⟨e1, e2⟩ := cut_no (l := esc l) (fun hm => (esc_vis _ hm).2.2.1 rfl)
  have hh : hd47 (esc l) = true := by
    match l, h.1 with
    | c :: r, h1 =>
      have hc : c = 47 := by simpa [hd47] using h1
      subst hc
      show hd47 (ec 47 ++ esc r) = true
      have : ec 47 = [47] := by unfold ec; rw [if_pos pl_47]
      rw [this]
      rfl
  rw [paR_ok (by unfold pok; rw [e1, e2, une_esc h.2, hh]; rfl)]
  unfold pth
  rw [e1, e2, une_esc h.2]
  rfl
theorem hd_head {l : List UInt8} : hd47 l = true ↔ l.head? = some 47 := by
  cases l with
  | nil => simp [hd47]
  | cons c r => simp [hd47]
theorem pok_eok {l : List UInt8} (h : pok l = true) : eok (pth l) = true := by
  unfold pok at h
  simp only [Bool.and_eq_true] at h
  obtain ⟨h1, h2, _⟩ := h
  obtain ⟨u, hu⟩ := Option.isSome_iff_exists.1 h1
  obtain ⟨i1, _, i3⟩ := une_ctl _ (cA l) u (Nat.le_refl _) hu
  unfold eok pth
  rw [hu, Option.getD_some, i1, hd_head.2 (i3 (hd_head.1 h2))]
  rfl
theorem pth_len {l : List UInt8} (h : pok l = true) : (pth l).length ≤ l.length := by
  unfold pok at h
  simp only [Bool.and_eq_true] at h
  obtain ⟨u, hu⟩ := Option.isSome_iff_exists.1 h.1
  obtain ⟨_, i2, _⟩ := une_ctl _ (cA l) u (Nat.le_refl _) hu
  unfold pth
  rw [hu, Option.getD_some]
  exact Nat.le_trans i2 (cA_len l).1
def tar0 : ByteArray := ⟨#[47, 37, 52, 49, 98, 37, 50, 48, 63, 113, 61, 37, 50, 102]⟩
theorem paR0 : paR tar0.data.toList = .tuple #[.string ⟨#[47, 65, 98, 32]⟩, .string ⟨#[113, 61, 37, 50, 102]⟩, .int .i64 0] := by
  have h1 : cA tar0.data.toList = [47, 37, 52, 49, 98, 37, 50, 48] := by decide +kernel
  have h2 : cQ tar0.data.toList = [113, 61, 37, 50, 102] := by decide +kernel
  have h3 : une [47, 37, 52, 49, 98, 37, 50, 48] = some [47, 65, 98, 32] := by decide +kernel
  have h4 : qok [113, 61, 37, 50, 102] = true := by decide +kernel
  rw [paR_ok (by unfold pok; rw [h1, h2, h3, h4]; rfl)]
  unfold pth
  rw [h1, h2, h3]
  rfl
set_option maxRecDepth 100000 in
set_option maxHeartbeats 2000000 in
theorem escapes_walk (ad : Nat → Addr) (s : ByteArray) (hs : s.size ≤ 1048576) (w : World) (h : GE w ad) : Calls Tryd.prog 4 #[.string s] w fun e w' => e = .returned (.bool true) ∧ Up w w' := by
  have HG := Hid.of h
  clear h
  obtain ⟨L, hL⟩ : ∃ L, s.data.toList = L := ⟨_, rfl⟩
  have HLL := Hid.of hL
  have HS := Hid.of (show s.size = L.length by rw [← hL]; exact Go.Lib.size_eq s)
  clear hL
  have HP0 := Hid.of (Path_walk ad tar0 (by decide +kernel) w HG.out)
  rw [paR0] at HP0
  unfold tar0 at HP0
  go_enter Tryd.func4, Tryd.ntmps4
  go_wp2_with fail
  refine HP0.out.mono ?_
  rintro e w1 ⟨rfl, h9⟩
  have HUw1 := Hid.of h9
  clear h9
  dsimp only
  have HE0 := Hid.of (Escape_walk ad s (by omega) w1 (HG.out.up HUw1.out))
  rw [HLL.out] at HE0
  cases hek : eok L with
  | false =>
    rw [eaR_no hek] at HE0
    go_wp2_with fail
    refine (HE0.out).mono ?_
    rintro e w2 ⟨rfl, h9⟩
    have HUw2 := Hid.of (HUw1.out.trans h9)
    clear h9
    dsimp only
    have HPs := Hid.of (Path_walk ad s (by omega) w2 (HG.out.up HUw2.out))
    rw [HLL.out] at HPs
    cases hpk : pok L with
    | false =>
      rw [paR_no hpk] at HPs
      go_wp2_with fail
      refine (HPs.out).mono ?_
      rintro e w7 ⟨rfl, h9⟩
      have HUw7 := Hid.of (HUw2.out.trans h9)
      clear h9
      dsimp only
      go_wp2
      go_ret
      exact ⟨rfl, HUw7.out⟩
    | true =>
      rw [paR_ok hpk] at HPs
      have hep := pok_eok hpk
      have hpl := pth_len hpk
      rw [← HS.out] at hpl
      obtain ⟨p, hp⟩ : ∃ p : ByteArray, (⟨(pth L).toArray⟩ : ByteArray) = p := ⟨_, rfl⟩
      have HPP := Hid.of (show p.data.toList = pth L by rw [← hp])
      have hps : p.size ≤ 1048576 := by rw [Go.Lib.size_eq, HPP.out]; omega
      rw [show vs (pth L) = .string p by rw [← hp]] at HPs
      clear hp hpl
      generalize vs (cQ L) = vq at *
      go_wp2_with fail
      refine (HPs.out).mono ?_
      rintro e w7 ⟨rfl, h9⟩
      have HUw7 := Hid.of (HUw2.out.trans h9)
      clear h9
      dsimp only
      have HEs := Hid.of (Escape_walk ad p (by omega) w7 (HG.out.up HUw7.out))
      rw [HPP.out, eaR_ok hep] at HEs
      obtain ⟨t2, ht2⟩ : ∃ t : ByteArray, (⟨(esc (pth L)).toArray⟩ : ByteArray) = t := ⟨_, rfl⟩
      have HT2 := Hid.of (show t2.data.toList = esc (pth L) by rw [← ht2])
      have hts2 : t2.size ≤ 1099511627776 := by
        have h1 := esc_len (pth L)
        rw [← HPP.out, ← Go.Lib.size_eq] at h1
        rw [Go.Lib.size_eq, HT2.out, ← HPP.out]
        omega
      rw [show vs (esc (pth L)) = .string t2 by rw [← ht2]] at HEs
      clear ht2
      go_wp2_with fail
      refine (HEs.out).mono ?_
      rintro e w8 ⟨rfl, h9⟩
      have HUw8 := Hid.of (HUw7.out.trans h9)
      clear h9
      dsimp only
      have HPt2 := Hid.of (Path_walk ad t2 hts2 w8 (HG.out.up HUw8.out))
      rw [HT2.out, paR_esc hep, ← HPP.out, vs_data] at HPt2
      go_wp2_with fail
      refine (HPt2.out).mono ?_
      rintro e w9 ⟨rfl, h9⟩
      have HUw9 := Hid.of (HUw8.out.trans h9)
      clear h9
      dsimp only
      go_wp2
      go_ret
      exact ⟨by simp, HUw9.out⟩
  | true =>
    rw [eaR_ok hek] at HE0
    obtain ⟨t, ht⟩ : ∃ t : ByteArray, (⟨(esc L).toArray⟩ : ByteArray) = t := ⟨_, rfl⟩
    have HT := Hid.of (show t.data.toList = esc L by rw [← ht])
    have hts : t.size ≤ 1099511627776 := by
      have h1 := esc_len L
      rw [← HS.out] at h1
      rw [Go.Lib.size_eq, HT.out]
      omega
    rw [show vs (esc L) = .string t by rw [← ht]] at HE0
    clear ht
    go_wp2_with fail
    refine (HE0.out).mono ?_
    rintro e w2 ⟨rfl, h9⟩
    have HUw2 := Hid.of (HUw1.out.trans h9)
    clear h9
    dsimp only
    have HPt := Hid.of (Path_walk ad t hts w2 (HG.out.up HUw2.out))
    rw [HT.out, paR_esc hek, ← HLL.out, vs_data] at HPt
    go_wp2_with fail
    refine (HPt.out).mono ?_
    rintro e w3 ⟨rfl, h9⟩
    have HUw3 := Hid.of (HUw2.out.trans h9)
    clear h9
    dsimp only
    go_wp2
    go_loopw [11] (fun v11 wr => ∃ i : Nat, v11 = .int .i64 (i : Int) ∧ i ≤ t.size ∧ Hid (Up w wr)) (fun v11 _ => t.size - (intOf v11).toNat)
    case atStart => exact ⟨0, rfl, Nat.zero_le _, HUw3⟩
    case round =>
      obtain ⟨i, rfl, hi, hQ⟩ := hrel
      have HUwr := Hid.of hQ.out
      clear hQ
      by_cases hil : i < t.size
      · have hilz : (i : Int) < (t.size : Int) := by omega
        have hg := sget' t i hil
        have hv := esc_vis (l := L) (t.data.toList[i]'(by rw [← Go.Lib.size_eq]; exact hil)) (by rw [← HT.out]; exact List.getElem_mem _)
        generalize t.data.toList[i]'(by rw [← Go.Lib.size_eq]; exact hil) = x at *
        have z1 : ¬ (x.toNat : Int) < 33 := by omega
        have z2 : ¬ (126 : Int) < (x.toNat : Int) := by omega
        have z3 : ((x.toNat : Int) == 63) = false := by rw [beq_eq_false_iff_ne]; omega
        have z4 : ((x.toNat : Int) == 35) = false := by rw [beq_eq_false_iff_ne]; omega
        clear hv
        go_wp2
        go_roundw
        all_goals first
          | exact ⟨i + 1, by go_num, by omega, HUwr⟩
          | (simp [intOf]; omega)
      · have hilz : ¬ (i : Int) < (t.size : Int) := by omega
        have HPs := Hid.of (Path_walk ad s (by omega) wr (HG.out.up HUwr.out))
        rw [HLL.out] at HPs
        cases hpk : pok L with
        | false =>
          rw [paR_no hpk] at HPs
          go_wp2_with fail
          refine (HPs.out).mono ?_
          rintro e w7 ⟨rfl, h9⟩
          have HUw7 := Hid.of (HUwr.out.trans h9)
          clear h9
          dsimp only
          go_wp2
          go_ret
          exact ⟨rfl, HUw7.out⟩
        | true =>
          rw [paR_ok hpk] at HPs
          have hep := pok_eok hpk
          have hpl := pth_len hpk
          rw [← HS.out] at hpl
          obtain ⟨p, hp⟩ : ∃ p : ByteArray, (⟨(pth L).toArray⟩ : ByteArray) = p := ⟨_, rfl⟩
          have HPP := Hid.of (show p.data.toList = pth L by rw [← hp])
          have hps : p.size ≤ 1048576 := by rw [Go.Lib.size_eq, HPP.out]; omega
          rw [show vs (pth L) = .string p by rw [← hp]] at HPs
          clear hp hpl
          generalize vs (cQ L) = vq at *
          go_wp2_with fail
          refine (HPs.out).mono ?_
          rintro e w7 ⟨rfl, h9⟩
          have HUw7 := Hid.of (HUwr.out.trans h9)
          clear h9
          dsimp only
          have HEs := Hid.of (Escape_walk ad p (by omega) w7 (HG.out.up HUw7.out))
          rw [HPP.out, eaR_ok hep] at HEs
          obtain ⟨t2, ht2⟩ : ∃ t : ByteArray, (⟨(esc (pth L)).toArray⟩ : ByteArray) = t := ⟨_, rfl⟩
          have HT2 := Hid.of (show t2.data.toList = esc (pth L) by rw [← ht2])
          have hts2 : t2.size ≤ 1099511627776 := by
            have h1 := esc_len (pth L)
            rw [← HPP.out, ← Go.Lib.size_eq] at h1
            rw [Go.Lib.size_eq, HT2.out, ← HPP.out]
            omega
          rw [show vs (esc (pth L)) = .string t2 by rw [← ht2]] at HEs
          clear ht2
          go_wp2_with fail
          refine (HEs.out).mono ?_
          rintro e w8 ⟨rfl, h9⟩
          have HUw8 := Hid.of (HUw7.out.trans h9)
          clear h9
          dsimp only
          have HPt2 := Hid.of (Path_walk ad t2 hts2 w8 (HG.out.up HUw8.out))
          rw [HT2.out, paR_esc hep, ← HPP.out, vs_data] at HPt2
          go_wp2_with fail
          refine (HPt2.out).mono ?_
          rintro e w9 ⟨rfl, h9⟩
          have HUw9 := Hid.of (HUw8.out.trans h9)
          clear h9
          dsimp only
          go_wp2
          go_ret
          exact ⟨by simp, HUw9.out⟩
end Go.Proofs.YtdgpnppnjkpfoaaDoor
