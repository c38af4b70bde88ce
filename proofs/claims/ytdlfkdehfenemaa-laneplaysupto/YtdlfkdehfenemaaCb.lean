import Derived.Test.YtdlfkdehfenemaaCa
namespace Go.Proofs.Ytdlfkdehfenemaa
open Go.RowKit Go.Conc TextNum
set_option maxRecDepth 100000 in
theorem below_walk (w : World) (z : Int) (m : Nat) (hm : 0 < m) (hm2 : m ≤ 1048576) : Calls Try.prog 17 #[.int .i64 z, .int .i64 (m : Int)] w fun e w' => ∃ r : Nat, e = .returned (.int .i64 (r : Int)) ∧ r < m ∧ w' = w := by
  have h1 := Int.tmod_lt_of_pos z (show (0 : Int) < (m : Int) by omega)
  have h2 : -(m : Int) < z.tmod m := by
    have h3 := Int.tmod_lt_of_pos (-z) (show (0 : Int) < (m : Int) by omega)
    rw [Int.neg_tmod] at h3
    omega
  have hz : ¬ ((m : Int) = 0) := by omega
  have hz2 : ((m : Int) == 0) = false := by simp; omega
  have hz3 : ¬ ((m : Int) = -1) := by omega
  have HM := Hid.of hm
  clear hm
  by_cases hneg : z.tmod m < 0
  · obtain ⟨q, hq⟩ : ∃ q, z.tmod m = q := ⟨_, rfl⟩
    rw [hq] at h1 h2 hneg
    have hw : IntKind.i64.wrap (q + (m : Int)) = q + (m : Int) := by rw [IntKind.wrap_i64]; omega
    go_enter Try.func17, Try.ntmps17
    go_wp2
    go_ret
    exact ⟨(q + m).toNat, by
      show Ending.returned (Value.int .i64 (q + (m : Int))) = _
      rw [Int.toNat_of_nonneg (by omega)], by omega, rfl⟩
  · obtain ⟨q, hq⟩ : ∃ q, z.tmod m = q := ⟨_, rfl⟩
    rw [hq] at h1 h2 hneg
    go_enter Try.func17, Try.ntmps17
    go_wp2
    go_ret
    exact ⟨q.toNat, by
      show Ending.returned (Value.int .i64 q) = _
      rw [Int.toNat_of_nonneg (by omega)], by omega, rfl⟩
set_option maxRecDepth 100000 in
theorem short_walk (w : World) (v : Value) (d : List UInt8) (h : Sb w v d) : Calls Try.prog 21 #[v] w fun e w' => ∃ v', e = .returned v' ∧ Sb w v' (d.take 4096) ∧ v'.ownBlock = v.ownBlock ∧ w' = w := by
  obtain ⟨a, c, rfl, h1, h2, h3, h4⟩ := id h
  by_cases hl : 4096 < d.length
  · have hz : (4096 : Int) < (d.length : Int) := by omega
    have hz2 : (4096 : Int) ≤ (c : Int) := by omega
    have HT := Hid.of (Sb.take' h 4096 (by omega))
    clear h h1 h2 h3 h4
    go_enter Try.func21, Try.ntmps21
    go_wp2
    go_ret
    exact ⟨_, rfl, HT.out, by show (Value.slice a 4096 c).ownBlock = _; cases a <;> rfl, rfl⟩
  · have hz : ¬ ((4096 : Int) < (d.length : Int)) := by omega
    have HT := Hid.of (show Sb w (.slice a d.length c) (d.take 4096) by rw [List.take_of_length_le (by omega)]; exact h)
    clear h h1 h2 h3 h4
    go_enter Try.func21, Try.ntmps21
    go_wp2
    go_ret
    exact ⟨_, rfl, HT.out, rfl, rfl⟩
theorem Sb.cell {w : World} {a : Option Addr} {d : List UInt8} {n c : Nat} (h : Sb w (.slice a n c) d) {j : Nat} (hj : j < d.length) : ∃ b o, a = some ⟨b, o, none⟩ ∧ w.cell? ⟨b, o + j, none⟩ = some (vb d[j]) ∧ n ≤ c := by
  obtain ⟨a2, c2, e, k1, k2, k3, k4⟩ := h
  injection e with e1 e2 e3
  subst e1 e2 e3
  cases a with
  | none => have := (k3 rfl).1; subst this; simp at hj
  | some ad =>
    obtain ⟨b, o, sp⟩ := ad
    obtain rfl : sp = none := (k4 _ rfl).1 (fun e => by subst e; simp at hj)
    have := (k4 _ rfl).2 j _ (cb_get hj)
    rw [Addr.add_lit] at this
    exact ⟨b, o, rfl, this, k1⟩
set_option maxRecDepth 100000 in
set_option maxHeartbeats 400000 in
theorem same_walk (w : World) (v1 v2 : Value) (d1 d2 : List UInt8) (h1 : Sb w v1 d1) (h2 : Sb w v2 d2) (hl : d1.length ≤ 4611686018427387904) : Calls Try.prog 24 #[v1, v2] w fun e w' => e = .returned (.bool (d1 == d2)) ∧ Up w w' := by
  obtain ⟨a1, c1, rfl, hc1, _⟩ := id h1
  obtain ⟨a2, c2, rfl, hc2, _⟩ := id h2
  have H1 := Hid.of h1
  have H2 := Hid.of h2
  clear h1 h2
  by_cases hlen : d1.length = d2.length
  · have hlz : ((d1.length : Int) == (d2.length : Int)) = true := by simp; omega
    have hlz2 : ((d1.length : Int) != (d2.length : Int)) = false := by rw [bne, hlz]; rfl
    have HLEN := Hid.of (And.intro hlen trivial)
    generalize hq : (d1 == d2) = q
    have HQ := Hid.of (And.intro hq trivial)
    clear hq hlen hlz
    go_enter Try.func24, Try.ntmps24
    go_wp2
    go_loopw [5] (fun v5 wr => ∃ i : Nat, v5 = .int .i64 (i : Int) ∧ i ≤ d1.length ∧ Hid (d1.take i = d2.take i ∧ Up w wr)) (fun v5 _ => d1.length - (intOf v5).toNat)
    case atStart => exact ⟨0, rfl, by omega, Hid.of ⟨rfl, Up.refl _⟩⟩
    case round =>
      obtain ⟨i, rfl, hi, hR⟩ := hrel
      have HR := Hid.of hR.out
      clear hR
      by_cases hlt : i < d1.length
      · have hltz : (i : Int) < (d1.length : Int) := by omega
        have hlt2 : i < d2.length := by have := HLEN.out.1; omega
        have hltz2 : (i : Int) < (d2.length : Int) := by omega
        obtain ⟨b1, o1, rfl, x1, _⟩ := (H1.out.up HR.out.2).cell hlt
        obtain ⟨b2, o2, rfl, x2, _⟩ := (H2.out.up HR.out.2).cell hlt2
        have hcz1 : (d1.length : Int) ≤ (c1 : Int) := by omega
        have hcz2 : (d2.length : Int) ≤ (c2 : Int) := by omega
        have hiw : IntKind.i64.wrap ((i : Int) + 1) = (i : Int) + 1 := by rw [IntKind.wrap_i64]; omega
        obtain ⟨y1, e1⟩ : ∃ y, d1[i] = y := ⟨_, rfl⟩
        obtain ⟨y2, e2⟩ : ∃ y, d2[i] = y := ⟨_, rfl⟩
        rw [e1] at x1
        rw [e2] at x2
        by_cases hy : y1 = y2
        · have hyz : ((y1.toNat : Int) == (y2.toNat : Int)) = true := by rw [hy]; simp
          have hyz2 : ((y1.toNat : Int) != (y2.toNat : Int)) = false := by rw [bne, hyz]; rfl
          have HR2 := Hid.of (show d1.take (i + 1) = d2.take (i + 1) ∧ Up w wr.drew by
            refine ⟨?_, HR.out.2.drew⟩
            rw [List.take_succ_eq_append_getElem hlt, List.take_succ_eq_append_getElem hlt2, HR.out.1, e1, e2, hy])
          clear hyz hy e1 e2
          go_wp2
          have mixed : Try.prog.follows .mixedOrders = true := by kernel_rfl
          apply wp_once
          case h =>
            go_region
            all_goals exact ⟨rfl, rfl⟩
          clear mixed
          go_wp2
          go_roundw
          case rel => exact ⟨i + 1, by simp, by omega, HR2⟩
          case measure => simp [intOf]; omega
        · have hyz : ((y1.toNat : Int) == (y2.toNat : Int)) = false := by
            rw [u8_eq]
            simpa using hy
          have hyz2 : ((y1.toNat : Int) != (y2.toNat : Int)) = true := by rw [bne, hyz]; rfl
          have hF : q = false := by
            rw [← HQ.out.1]
            apply beq_false_of_ne
            intro e
            subst e
            exact hy (e1.symm.trans e2)
          have HF := Hid.of (And.intro hF trivial)
          clear hyz hy e1 e2 hF
          go_wp2
          have mixed : Try.prog.follows .mixedOrders = true := by kernel_rfl
          apply wp_once
          case h =>
            go_region
            all_goals exact ⟨rfl, rfl⟩
          clear mixed
          go_wp2
          go_ret
          rw [HF.out.1]
          exact ⟨rfl, HR.out.2.drew⟩
      · have hltz : ¬ ((i : Int) < (d1.length : Int)) := by omega
        obtain rfl : i = d1.length := by omega
        have hT : q = true := by
          rw [← HQ.out.1]
          have h3 := HR.out.1
          rw [List.take_length, HLEN.out.1, List.take_length] at h3
          rw [h3]
          simp
        have HT := Hid.of (And.intro hT trivial)
        clear hT
        go_wp2
        go_ret
        rw [HT.out.1]
        exact ⟨rfl, HR.out.2⟩
  · have hlz : ((d1.length : Int) == (d2.length : Int)) = false := by simp; omega
    have hlz2 : ((d1.length : Int) != (d2.length : Int)) = true := by rw [bne, hlz]; rfl
    have hF : (d1 == d2) = false := by
      apply beq_false_of_ne
      intro e
      exact hlen (by rw [e])
    rw [hF]
    clear hlz hlen hF
    go_enter Try.func24, Try.ntmps24
    go_wp2
    go_ret
    exact ⟨rfl, Up.refl _⟩
end Go.Proofs.Ytdlfkdehfenemaa
