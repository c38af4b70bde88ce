import Derived.Test.YtdlfkdehfenemaaCb
namespace Go.Proofs.Ytdlfkdehfenemaa
open Go.RowKit Go.Conc TextNum
set_option maxRecDepth 100000 in
set_option maxHeartbeats 400000 in
theorem same_any (w : World) (v1 v2 : Value) (d1 d2 : List UInt8) (h1 : Sb w v1 d1) (h2 : Sb w v2 d2) (hl : d1.length ≤ 9223372036854775807) : Calls Try.prog 24 #[v1, v2] w fun e w' => e = .returned (.bool (d1 == d2)) ∧ Up w w' := by
  obtain ⟨a1, c1, rfl, hc1, _⟩ := id h1
  obtain ⟨a2, c2, rfl, hc2, _⟩ := id h2
  have H1 := Hid.of h1
  have H2 := Hid.of h2
  clear h1 h2
  by_cases hlen : d1.length = d2.length
  · have hlz : ((d1.length : Int) == (d2.length : Int)) = true := by simp; omega
    have hlz2 : ((d1.length : Int) != (d2.length : Int)) = false := by rw [bne, hlz]; rfl
    have HLEN := Hid.of (And.intro hlen trivial)
    generalize hq : (d1 == d2) = q
    have HQ := Hid.of (And.intro hq trivial)
    clear hq hlen hlz
    go_enter Try.func24, Try.ntmps24
    go_wp2
    go_loopw [5] (fun v5 wr => ∃ i : Nat, v5 = .int .i64 (i : Int) ∧ i ≤ d1.length ∧ Hid (d1.take i = d2.take i ∧ Up w wr)) (fun v5 _ => d1.length - (intOf v5).toNat)
    case atStart => exact ⟨0, rfl, by omega, Hid.of ⟨rfl, Up.refl _⟩⟩
    case round =>
      obtain ⟨i, rfl, hi, hR⟩ := hrel
      have HR := Hid.of hR.out
      clear hR
      by_cases hlt : i < d1.length
      · have hltz : (i : Int) < (d1.length : Int) := by omega
        have hlt2 : i < d2.length := by have := HLEN.out.1; omega
        have hltz2 : (i : Int) < (d2.length : Int) := by omega
        obtain ⟨b1, o1, rfl, x1, _⟩ := (H1.out.up HR.out.2).cell hlt
        obtain ⟨b2, o2, rfl, x2, _⟩ := (H2.out.up HR.out.2).cell hlt2
        have hcz1 : (d1.length : Int) ≤ (c1 : Int) := by omega
        have hcz2 : (d2.length : Int) ≤ (c2 : Int) := by omega
        have hiw : IntKind.i64.wrap ((i : Int) + 1) = (i : Int) + 1 := by rw [IntKind.wrap_i64]; omega
        obtain ⟨y1, e1⟩ : ∃ y, d1[i] = y := ⟨_, rfl⟩
        obtain ⟨y2, e2⟩ : ∃ y, d2[i] = y := ⟨_, rfl⟩
        rw [e1] at x1
        rw [e2] at x2
        by_cases hy : y1 = y2
        · have hyz : ((y1.toNat : Int) == (y2.toNat : Int)) = true := by rw [hy]; simp
          have hyz2 : ((y1.toNat : Int) != (y2.toNat : Int)) = false := by rw [bne, hyz]; rfl
          have HR2 := Hid.of (show d1.take (i + 1) = d2.take (i + 1) ∧ Up w wr.drew by
            refine ⟨?_, HR.out.2.drew⟩
            rw [List.take_succ_eq_append_getElem hlt, List.take_succ_eq_append_getElem hlt2, HR.out.1, e1, e2, hy])
          clear hyz hy e1 e2
          go_wp2
          have mixed : Try.prog.follows .mixedOrders = true := by kernel_rfl
          apply wp_once
          case h =>
            go_region
            all_goals exact ⟨rfl, rfl⟩
          clear mixed
          go_wp2
          go_roundw
          case rel => exact ⟨i + 1, by simp, by omega, HR2⟩
          case measure => simp [intOf]; omega
        · have hyz : ((y1.toNat : Int) == (y2.toNat : Int)) = false := by
            rw [u8_eq]
            simpa using hy
          have hyz2 : ((y1.toNat : Int) != (y2.toNat : Int)) = true := by rw [bne, hyz]; rfl
          have hF : q = false := by
            rw [← HQ.out.1]
            apply beq_false_of_ne
            intro e
            subst e
            exact hy (e1.symm.trans e2)
          have HF := Hid.of (And.intro hF trivial)
          clear hyz hy e1 e2 hF
          go_wp2
          have mixed : Try.prog.follows .mixedOrders = true := by kernel_rfl
          apply wp_once
          case h =>
            go_region
            all_goals exact ⟨rfl, rfl⟩
          clear mixed
          go_wp2
          go_ret
          rw [HF.out.1]
          exact ⟨rfl, HR.out.2.drew⟩
      · have hltz : ¬ ((i : Int) < (d1.length : Int)) := by omega
        obtain rfl : i = d1.length := by omega
        have hT : q = true := by
          rw [← HQ.out.1]
          have h3 := HR.out.1
          rw [List.take_length, HLEN.out.1, List.take_length] at h3
          rw [h3]
          simp
        have HT := Hid.of (And.intro hT trivial)
        clear hT
        go_wp2
        go_ret
        rw [HT.out.1]
        exact ⟨rfl, HR.out.2⟩
  · have hlz : ((d1.length : Int) == (d2.length : Int)) = false := by simp; omega
    have hlz2 : ((d1.length : Int) != (d2.length : Int)) = true := by rw [bne, hlz]; rfl
    have hF : (d1 == d2) = false := by
      apply beq_false_of_ne
      intro e
      exact hlen (by rw [e])
    rw [hF]
    clear hlz hlen hF
    go_enter Try.func24, Try.ntmps24
    go_wp2
    go_ret
    exact ⟨rfl, Up.refl _⟩
end Go.Proofs.Ytdlfkdehfenemaa
