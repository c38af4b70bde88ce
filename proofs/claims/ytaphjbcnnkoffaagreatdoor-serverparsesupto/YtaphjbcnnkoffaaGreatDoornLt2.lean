import Derived.Test.YtaphjbcnnkoffaaGreatDoornPl
namespace Go.Proofs.YtaphjbcnnkoffaaGreatDoor
open Go.RowKit TextNum

/-- how many bytes the letter takes, 0: there is none -/
def lwd (d : Nat × Nat) : Nat := if d = (65533, 1) then 0 else d.2
theorem lwd_err : lwd (65533, 1) = 0 := rfl
theorem lwd_ok {a b : Nat} (h : b ≠ 1 ∨ a ≠ 65533) : lwd (a, b) = b := by
  unfold lwd; rw [if_neg]; simp; omega
/-- dec, by the first byte -/
theorem dec_one {b0 b1 b2 b3 : Nat} {c1 c2 c3 : Bool} (h : b0 < 128) : lwd (dec b0 b1 b2 b3 c1 c2 c3) = 1 := by
  unfold dec; rw [if_pos h]; exact lwd_ok (by omega)
theorem dec_none {b0 b1 b2 b3 : Nat} {c1 c2 c3 : Bool} (h : 128 ≤ b0) (h2 : b0 < 192 ∨ 248 ≤ b0) : lwd (dec b0 b1 b2 b3 c1 c2 c3) = 0 := by
  unfold dec
  rw [if_neg (by omega), if_neg (by simp; omega), if_neg (by simp; omega), if_neg (by simp; omega)]; rfl
theorem dec_two {b0 b1 b2 b3 : Nat} {c1 c2 c3 : Bool} (h : 192 ≤ b0) (h2 : b0 < 224) : lwd (dec b0 b1 b2 b3 c1 c2 c3) = if c1 = true ∧ 128 ≤ b0 % 32 * 64 + b1 % 64 then 2 else 0 := by
  unfold dec
  rw [if_neg (by omega)]
  cases c1 with
  | false => rw [if_neg (by simp), if_neg (by simp), if_neg (by simp), if_neg (by simp)]; rfl
  | true =>
    rw [if_pos (by simp; omega)]
    by_cases hv : b0 % 32 * 64 + b1 % 64 ≥ 128
    · rw [if_pos hv, if_pos ⟨rfl, hv⟩]; exact lwd_ok (by omega)
    · rw [if_neg hv, if_neg (fun h => hv h.2)]; rfl
theorem dec_three {b0 b1 b2 b3 : Nat} {c1 c2 c3 : Bool} (h : 224 ≤ b0) (h2 : b0 < 240) (n : Nat) (hn : n = b0 % 16 * 4096 + b1 % 64 * 64 + b2 % 64) :
    lwd (dec b0 b1 b2 b3 c1 c2 c3) = if c1 = true ∧ c2 = true ∧ 2048 ≤ n ∧ (n < 55296 ∨ 57344 ≤ n) then 3 else 0 := by
  have hb : n < 65536 := by omega
  unfold dec
  rw [if_neg (by omega), if_neg (by simp; omega)]
  cases c1 with
  | false => rw [if_neg (by simp), if_neg (by simp), if_neg (by simp)]; rfl
  | true =>
    cases c2 with
    | false => rw [if_neg (by simp), if_neg (by simp), if_neg (by simp)]; rfl
    | true =>
      rw [if_pos (by simp; omega), ← hn]
      by_cases hv : 2048 ≤ n ∧ (n < 55296 ∨ 57344 ≤ n)
      · rw [if_pos (by simp only [Bool.and_eq_true, decide_eq_true_eq, valid_iff]; omega), if_pos ⟨rfl, rfl, hv⟩]; exact lwd_ok (by omega)
      · rw [if_neg (by simp only [Bool.and_eq_true, decide_eq_true_eq, valid_iff]; omega), if_neg (fun h => hv h.2.2)]; rfl
theorem dec_four {b0 b1 b2 b3 : Nat} {c1 c2 c3 : Bool} (h : 240 ≤ b0) (h2 : b0 < 248) (n : Nat) (hn : n = b0 % 8 * 262144 + b1 % 64 * 4096 + b2 % 64 * 64 + b3 % 64) :
    lwd (dec b0 b1 b2 b3 c1 c2 c3) = if c1 = true ∧ c2 = true ∧ c3 = true ∧ 65536 ≤ n ∧ n ≤ 1114111 then 4 else 0 := by
  unfold dec
  rw [if_neg (by omega), if_neg (by simp; omega), if_neg (by simp; omega)]
  cases c1 with
  | false => rw [if_neg (by simp), if_neg (by simp)]; rfl
  | true =>
    cases c2 with
    | false => rw [if_neg (by simp), if_neg (by simp)]; rfl
    | true =>
      cases c3 with
      | false => rw [if_neg (by simp), if_neg (by simp)]; rfl
      | true =>
        rw [if_pos (by simp; omega), ← hn]
        by_cases hv : 65536 ≤ n ∧ n ≤ 1114111
        · rw [if_pos (by simp only [Bool.and_eq_true, decide_eq_true_eq, valid_iff]; omega), if_pos ⟨rfl, rfl, rfl, hv⟩]; exact lwd_ok (by omega)
        · rw [if_neg (by simp only [Bool.and_eq_true, decide_eq_true_eq, valid_iff]; omega), if_neg (fun h => hv h.2.2.2)]; rfl

theorem gb_get {s : ByteArray} {i : Nat} (h : i < s.size) : s[i].toNat = gb s i := by
  unfold gb
  congr 1
  simp [ByteArray.get!, getElem!_pos, h]
  rfl
def ac (t : ByteArray) (n0 : Nat) : Nat → Nat
  | 0 => n0
  | 1 => n0
  | i + 2 => 64 * ac t n0 (i + 1) + gb t (i + 1) % 64
theorem ac_step (t : ByteArray) (n0 : Nat) {i : Nat} (h : 1 ≤ i) : ac t n0 (i + 1) = 64 * ac t n0 i + gb t i % 64 := by
  obtain ⟨k, rfl⟩ : ∃ k, i = k + 1 := ⟨i - 1, by omega⟩
  rfl
theorem ac_lt (t : ByteArray) (n0 k : Nat) (h : n0 < 32) (hk : k ≤ 4) : ac t n0 k < 16777216 := by
  have m : ∀ i, gb t i % 64 < 64 := fun i => Nat.mod_lt _ (by decide)
  have m1 := m 1; have m2 := m 2; have m3 := m 3
  have e2 := ac_step t n0 (i := 1) (by decide); have e3 := ac_step t n0 (i := 2) (by decide); have e4 := ac_step t n0 (i := 3) (by decide)
  have e1 : ac t n0 1 = n0 := rfl
  have e0 : ac t n0 0 = n0 := rfl
  have : k = 0 ∨ k = 1 ∨ k = 2 ∨ k = 3 ∨ k = 4 := by omega
  rcases this with rfl | rfl | rfl | rfl | rfl <;> simp only [Nat.reduceAdd] at * <;> omega
theorem cnt_of {t : ByteArray} {i : Nat} (h : i < t.size) (h2 : gb t i / 64 = 2) : cnt t i = true := by simp [cnt, h, h2]
theorem cnt_no {t : ByteArray} {i : Nat} (h2 : ¬ gb t i / 64 = 2) : cnt t i = false := by simp [cnt, h2]
theorem cnt_out {t : ByteArray} {i : Nat} (h : t.size ≤ i) : cnt t i = false := by simp [cnt]; omega

set_option maxRecDepth 100000 in
set_option maxHeartbeats 4000000 in
theorem letter_low (t : ByteArray) (ht : 0 < t.size) (hts : t.size ≤ 1048576) (w : World) (a1 : t[0].toNat < 128) : Calls Tryz.prog 99 #[.string t] w fun e w' => e = .returned (.int .i64 (lwd (Utf8.decode t 0) : Int)) ∧ w' = w := by
  have _ := hts
  have h0 : t[0].toNat < 256 := t[0].toNat_lt
  have hg0 := gb_get ht
  have HD := Hid.of (decode_dec t 0)
  have HG := Hid.of hg0
  generalize hq : t[0].toNat = b0 at *
  have HQ := Hid.of hq
  have HF := Hid.of (show lwd (Utf8.decode t 0) = 1 by rw [HD.out, ← HG.out]; exact dec_one a1)
  clear hg0
  go_enter Tryz.func99, Tryz.ntmps99
  go_wp2
  go_ret
  rw [HF.out]
  exact ⟨rfl, rfl⟩

set_option maxRecDepth 100000 in
set_option maxHeartbeats 4000000 in
theorem letter_none (t : ByteArray) (ht : 0 < t.size) (hts : t.size ≤ 1048576) (w : World) (a1 : ¬ t[0].toNat < 128) (a2 : t[0].toNat < 192 ∨ 248 ≤ t[0].toNat) : Calls Tryz.prog 99 #[.string t] w fun e w' => e = .returned (.int .i64 (lwd (Utf8.decode t 0) : Int)) ∧ w' = w := by
  have _ := hts
  have h0 : t[0].toNat < 256 := t[0].toNat_lt
  have hg0 := gb_get ht
  have HD := Hid.of (decode_dec t 0)
  have HG := Hid.of hg0
  generalize hq : t[0].toNat = b0 at *
  have HQ := Hid.of hq
  have HF := Hid.of (show lwd (Utf8.decode t 0) = 0 by rw [HD.out, ← HG.out]; exact dec_none (by omega) a2)
  clear hg0
  rcases a2 with a2 | a2
  · have m1 : ¬ (192 : Int) ≤ (b0 : Int) := by omega
    have m2 : decide ((192 : Int) ≤ (b0 : Int)) = false := by simp; omega
    have m3 : decide ((224 : Int) ≤ (b0 : Int)) = false := by simp; omega
    have m4 : decide ((240 : Int) ≤ (b0 : Int)) = false := by simp; omega
    go_enter Tryz.func99, Tryz.ntmps99
    go_wp2
    go_ret
    rw [HF.out]
    exact ⟨rfl, rfl⟩
  · have m1 : ¬ (b0 : Int) < 224 := by omega
    have m2 : ¬ (b0 : Int) < 240 := by omega
    have m3 : ¬ (b0 : Int) < 248 := by omega
    go_enter Tryz.func99, Tryz.ntmps99
    go_wp2
    go_ret
    rw [HF.out]
    exact ⟨rfl, rfl⟩

set_option maxRecDepth 100000 in
set_option maxHeartbeats 4000000 in
theorem letter_two (t : ByteArray) (ht : 0 < t.size) (hts : t.size ≤ 1048576) (w : World) (a1 : 192 ≤ t[0].toNat) (a3 : t[0].toNat < 224) : Calls Tryz.prog 99 #[.string t] w fun e w' => e = .returned (.int .i64 (lwd (Utf8.decode t 0) : Int)) ∧ w' = w := by
  have _ := hts
  have h0 : t[0].toNat < 256 := t[0].toNat_lt
  have hg0 := gb_get ht
  have HD := Hid.of (decode_dec t 0)
  have HG := Hid.of hg0
  generalize hq : t[0].toNat = b0 at *
  have HQ := Hid.of hq
  have l1 : (192 : Int) ≤ (b0 : Int) := by omega
  have l2 : (b0 : Int) < 224 := by omega
  obtain ⟨n0, hn0⟩ : ∃ n0, n0 = b0 % 32 := ⟨_, rfl⟩
  have e0 : (b0 : Int) % 32 = (n0 : Int) := by omega
  have hn0b : n0 < 32 := by omega
  have HN0 := Hid.of hn0
  have HF : Hid (lwd (Utf8.decode t 0) = if cnt t 1 = true ∧ 128 ≤ b0 % 32 * 64 + gb t 1 % 64 then 2 else 0) := by
    rw [HD.out, ← HG.out]
    exact dec_two (by omega) a3
  clear hg0 hn0
  go_enter Tryz.func99, Tryz.ntmps99
  by_cases hs : t.size ≤ 1
  · have hs1 : (t.size : Int) ≤ 1 := by omega
    have HZ := Hid.of (show lwd (Utf8.decode t 0) = 0 by rw [HF.out, if_neg (fun h => by have := h.1; rw [cnt_out (by omega)] at this; cases this)])
    go_wp2
    go_ret
    rw [HZ.out]
    exact ⟨rfl, rfl⟩
  · have hs1 : ¬ (t.size : Int) ≤ 1 := by omega
    go_wp2
    go_loop [5, 7] (fun v5 v7 => ∃ i : Nat, v7 = .int .i64 (i : Int) ∧ 1 ≤ i ∧ i ≤ 2 ∧ v5 = .int .i64 (ac t n0 i : Int) ∧ Hid (∀ j, 1 ≤ j → j < i → cnt t j = true)) (fun _ v7 => 3 - (intOf v7).toNat)
    case atStart => exact ⟨1, rfl, by omega, by omega, rfl, fun j h1 h2 => by omega⟩
    case round =>
      obtain ⟨i, rfl, hi1, hi, rfl, hI⟩ := hrel
      have hab : ac t n0 i < 16777216 := ac_lt t n0 i (by omega) (by omega)
      by_cases hiM : i ≤ 1
      · have hit : i < t.size := by omega
        have hgj := gb_get hit
        have hbj : t[i].toNat < 256 := t[i].toNat_lt
        have HGJ := Hid.of hgj
        have HAC := Hid.of (show ac t n0 (i + 1) = 64 * ac t n0 i + t[i].toNat % 64 by rw [hgj]; exact ac_step t n0 hi1)
        clear hgj
        generalize ac t n0 i = ak at *
        by_cases hd : t[i].toNat / 64 = 2
        · have d1 : ((t[i].toNat : Int) / 64 != 2) = false := by simp; omega
          have HC := Hid.of (cnt_of hit (by rw [← HGJ.out]; exact hd))
          clear hd
          go_wp2
          go_round
          case rel => exact ⟨i + 1, by go_num, by omega, by omega, by rw [HAC.out]; go_num, fun j h1 h2 => by by_cases e : j = i; (subst e; exact HC.out); (exact hI.out j h1 (by omega))⟩
          case measure => simp [intOf]; omega
        · have d1 : ((t[i].toNat : Int) / 64 != 2) = true := by simp; omega
          have HZ := Hid.of (show lwd (Utf8.decode t 0) = 0 by rw [HF.out, if_neg (fun h => by have h9 : cnt t i = true := ((show i = 1 by omega) ▸ h.1); rw [cnt_no (by rw [← HGJ.out]; exact hd)] at h9; cases h9)])
          clear hd
          go_wp2
          go_ret
          rw [HZ.out]
          exact ⟨rfl, rfl⟩
      · obtain rfl : i = 2 := by omega
        have HC := Hid.of (And.intro (hI.out 1 (by omega) (by omega)) (And.intro (hI.out 1 (by omega) (by omega)) (hI.out 1 (by omega) (by omega))))
        have HA := Hid.of (show ac t n0 2 = b0 % 32 * 64 + gb t 1 % 64 from by have e2 := ac_step t n0 (i := 1) (by decide); have e3 := ac_step t n0 (i := 2) (by decide); have e4 := ac_step t n0 (i := 3) (by decide); have e1 : ac t n0 1 = n0 := rfl; have := HN0.out; simp only [Nat.reduceAdd] at *; omega)
        obtain ⟨n, hn⟩ : ∃ n, n = ac t n0 2 := ⟨_, rfl⟩
        rw [← hn]
        rw [← hn] at hab HA
        have HNN := Hid.of hn
        clear hn
        by_cases hv : 128 ≤ n
        · have HZ := Hid.of (show lwd (Utf8.decode t 0) = 2 by rw [HF.out, if_pos ⟨HC.out.1, by rw [← HA.out]; exact hv⟩])
          have q1 : ¬ (n : Int) < 128 := by omega
          have q2 : decide ((n : Int) < 128) = false := by simp; omega
          have q3 : decide ((1114111 : Int) < (n : Int)) = false := by simp; have := HA.out; have := gb_lt t 1; omega
          have q4 : decide ((55296 : Int) ≤ (n : Int)) = false := by simp; have := HA.out; have := gb_lt t 1; omega
          go_wp2
          go_ret
          rw [HZ.out]
          exact ⟨rfl, rfl⟩
        · have HZ := Hid.of (show lwd (Utf8.decode t 0) = 0 by rw [HF.out, if_neg (fun h => hv (by rw [HA.out]; exact h.2))])
          have q1 : (n : Int) < 128 := by omega
          go_wp2
          go_ret
          rw [HZ.out]
          exact ⟨rfl, rfl⟩

set_option maxRecDepth 100000 in
set_option maxHeartbeats 4000000 in
theorem letter_three (t : ByteArray) (ht : 0 < t.size) (hts : t.size ≤ 1048576) (w : World) (a1 : 224 ≤ t[0].toNat) (a4 : t[0].toNat < 240) : Calls Tryz.prog 99 #[.string t] w fun e w' => e = .returned (.int .i64 (lwd (Utf8.decode t 0) : Int)) ∧ w' = w := by
  have _ := hts
  have h0 : t[0].toNat < 256 := t[0].toNat_lt
  have hg0 := gb_get ht
  have HD := Hid.of (decode_dec t 0)
  have HG := Hid.of hg0
  generalize hq : t[0].toNat = b0 at *
  have HQ := Hid.of hq
  have l1 : (224 : Int) ≤ (b0 : Int) := by omega
  have l2 : (b0 : Int) < 240 := by omega
  have l3 : ¬ (b0 : Int) < 224 := by omega
  obtain ⟨n0, hn0⟩ : ∃ n0, n0 = b0 % 16 := ⟨_, rfl⟩
  have e0 : (b0 : Int) % 16 = (n0 : Int) := by omega
  have hn0b : n0 < 16 := by omega
  have HN0 := Hid.of hn0
  have HF : Hid (lwd (Utf8.decode t 0) = if cnt t 1 = true ∧ cnt t 2 = true ∧ 2048 ≤ b0 % 16 * 4096 + gb t 1 % 64 * 64 + gb t 2 % 64 ∧ (b0 % 16 * 4096 + gb t 1 % 64 * 64 + gb t 2 % 64 < 55296 ∨ 57344 ≤ b0 % 16 * 4096 + gb t 1 % 64 * 64 + gb t 2 % 64) then 3 else 0) := by
    rw [HD.out, ← HG.out]
    exact dec_three (by omega) a4 _ rfl
  clear hg0 hn0
  go_enter Tryz.func99, Tryz.ntmps99
  by_cases hs : t.size ≤ 2
  · have hs1 : (t.size : Int) ≤ 2 := by omega
    have HZ := Hid.of (show lwd (Utf8.decode t 0) = 0 by rw [HF.out, if_neg (fun h => by have := h.2.1; rw [cnt_out (by omega)] at this; cases this)])
    go_wp2
    go_ret
    rw [HZ.out]
    exact ⟨rfl, rfl⟩
  · have hs1 : ¬ (t.size : Int) ≤ 2 := by omega
    go_wp2
    go_loop [5, 7] (fun v5 v7 => ∃ i : Nat, v7 = .int .i64 (i : Int) ∧ 1 ≤ i ∧ i ≤ 3 ∧ v5 = .int .i64 (ac t n0 i : Int) ∧ Hid (∀ j, 1 ≤ j → j < i → cnt t j = true)) (fun _ v7 => 4 - (intOf v7).toNat)
    case atStart => exact ⟨1, rfl, by omega, by omega, rfl, fun j h1 h2 => by omega⟩
    case round =>
      obtain ⟨i, rfl, hi1, hi, rfl, hI⟩ := hrel
      have hab : ac t n0 i < 16777216 := ac_lt t n0 i (by omega) (by omega)
      by_cases hiM : i ≤ 2
      · have hit : i < t.size := by omega
        have hgj := gb_get hit
        have hbj : t[i].toNat < 256 := t[i].toNat_lt
        have HGJ := Hid.of hgj
        have HAC := Hid.of (show ac t n0 (i + 1) = 64 * ac t n0 i + t[i].toNat % 64 by rw [hgj]; exact ac_step t n0 hi1)
        clear hgj
        generalize ac t n0 i = ak at *
        by_cases hd : t[i].toNat / 64 = 2
        · have d1 : ((t[i].toNat : Int) / 64 != 2) = false := by simp; omega
          have HC := Hid.of (cnt_of hit (by rw [← HGJ.out]; exact hd))
          clear hd
          go_wp2
          go_round
          case rel => exact ⟨i + 1, by go_num, by omega, by omega, by rw [HAC.out]; go_num, fun j h1 h2 => by by_cases e : j = i; (subst e; exact HC.out); (exact hI.out j h1 (by omega))⟩
          case measure => simp [intOf]; omega
        · have d1 : ((t[i].toNat : Int) / 64 != 2) = true := by simp; omega
          have HZ := Hid.of (show lwd (Utf8.decode t 0) = 0 by rw [HF.out, if_neg (fun h => by have h9 : cnt t i = true := (if e : i = 1 then e ▸ h.1 else (show i = 2 by omega) ▸ h.2.1); rw [cnt_no (by rw [← HGJ.out]; exact hd)] at h9; cases h9)])
          clear hd
          go_wp2
          go_ret
          rw [HZ.out]
          exact ⟨rfl, rfl⟩
      · obtain rfl : i = 3 := by omega
        have HC := Hid.of (And.intro (hI.out 1 (by omega) (by omega)) (And.intro (hI.out 2 (by omega) (by omega)) (hI.out 2 (by omega) (by omega))))
        have HA := Hid.of (show ac t n0 3 = b0 % 16 * 4096 + gb t 1 % 64 * 64 + gb t 2 % 64 from by have e2 := ac_step t n0 (i := 1) (by decide); have e3 := ac_step t n0 (i := 2) (by decide); have e4 := ac_step t n0 (i := 3) (by decide); have e1 : ac t n0 1 = n0 := rfl; have := HN0.out; simp only [Nat.reduceAdd] at *; omega)
        obtain ⟨n, hn⟩ : ∃ n, n = ac t n0 3 := ⟨_, rfl⟩
        rw [← hn]
        rw [← hn] at hab HA
        have HNN := Hid.of hn
        clear hn
        by_cases hv : 2048 ≤ n ∧ (n < 55296 ∨ 57344 ≤ n)
        · have HZ := Hid.of (show lwd (Utf8.decode t 0) = 3 by rw [HF.out, if_pos ⟨HC.out.1, HC.out.2.1, by rw [← HA.out]; exact hv⟩])
          have q1 : ¬ (n : Int) < 2048 := by omega
          have q2 : decide ((n : Int) < 2048) = false := by simp; omega
          have q3 : decide ((1114111 : Int) < (n : Int)) = false := by simp; have := HA.out; have := gb_lt t 1; omega
          by_cases hw : n < 55296
          · have q4 : decide ((55296 : Int) ≤ (n : Int)) = false := by simp; omega
            go_wp2
            go_ret
            rw [HZ.out]
            exact ⟨rfl, rfl⟩
          have q4 : decide ((55296 : Int) ≤ (n : Int)) = true := by simp; omega
          have q5 : decide ((n : Int) ≤ 57343) = false := by simp; omega
          go_wp2
          go_ret
          rw [HZ.out]
          exact ⟨rfl, rfl⟩
        · have HZ := Hid.of (show lwd (Utf8.decode t 0) = 0 by rw [HF.out, if_neg (fun h => hv (by rw [HA.out]; exact h.2.2))])
          by_cases hw : n < 2048
          · have q1 : (n : Int) < 2048 := by omega
            go_wp2
            go_ret
            rw [HZ.out]
            exact ⟨rfl, rfl⟩
          have q2 : decide ((n : Int) < 2048) = false := by simp; omega
          have q3 : decide ((1114111 : Int) < (n : Int)) = false := by simp; omega
          have q4 : (55296 : Int) ≤ (n : Int) := by omega
          have q5 : (n : Int) ≤ 57343 := by omega
          go_wp2
          go_ret
          rw [HZ.out]
          exact ⟨rfl, rfl⟩

set_option maxRecDepth 100000 in
set_option maxHeartbeats 4000000 in
theorem letter_four (t : ByteArray) (ht : 0 < t.size) (hts : t.size ≤ 1048576) (w : World) (a1 : 240 ≤ t[0].toNat) (a5 : t[0].toNat < 248) : Calls Tryz.prog 99 #[.string t] w fun e w' => e = .returned (.int .i64 (lwd (Utf8.decode t 0) : Int)) ∧ w' = w := by
  have _ := hts
  have h0 : t[0].toNat < 256 := t[0].toNat_lt
  have hg0 := gb_get ht
  have HD := Hid.of (decode_dec t 0)
  have HG := Hid.of hg0
  generalize hq : t[0].toNat = b0 at *
  have HQ := Hid.of hq
  have l1 : (240 : Int) ≤ (b0 : Int) := by omega
  have l2 : (b0 : Int) < 248 := by omega
  have l3 : ¬ (b0 : Int) < 224 := by omega
  have l4 : ¬ (b0 : Int) < 240 := by omega
  obtain ⟨n0, hn0⟩ : ∃ n0, n0 = b0 % 8 := ⟨_, rfl⟩
  have e0 : (b0 : Int) % 8 = (n0 : Int) := by omega
  have hn0b : n0 < 8 := by omega
  have HN0 := Hid.of hn0
  have HF : Hid (lwd (Utf8.decode t 0) = if cnt t 1 = true ∧ cnt t 2 = true ∧ cnt t 3 = true ∧ 65536 ≤ b0 % 8 * 262144 + gb t 1 % 64 * 4096 + gb t 2 % 64 * 64 + gb t 3 % 64 ∧ b0 % 8 * 262144 + gb t 1 % 64 * 4096 + gb t 2 % 64 * 64 + gb t 3 % 64 ≤ 1114111 then 4 else 0) := by
    rw [HD.out, ← HG.out]
    exact dec_four (by omega) a5 _ rfl
  clear hg0 hn0
  go_enter Tryz.func99, Tryz.ntmps99
  by_cases hs : t.size ≤ 3
  · have hs1 : (t.size : Int) ≤ 3 := by omega
    have HZ := Hid.of (show lwd (Utf8.decode t 0) = 0 by rw [HF.out, if_neg (fun h => by have := h.2.2.1; rw [cnt_out (by omega)] at this; cases this)])
    go_wp2
    go_ret
    rw [HZ.out]
    exact ⟨rfl, rfl⟩
  · have hs1 : ¬ (t.size : Int) ≤ 3 := by omega
    go_wp2
    go_loop [5, 7] (fun v5 v7 => ∃ i : Nat, v7 = .int .i64 (i : Int) ∧ 1 ≤ i ∧ i ≤ 4 ∧ v5 = .int .i64 (ac t n0 i : Int) ∧ Hid (∀ j, 1 ≤ j → j < i → cnt t j = true)) (fun _ v7 => 5 - (intOf v7).toNat)
    case atStart => exact ⟨1, rfl, by omega, by omega, rfl, fun j h1 h2 => by omega⟩
    case round =>
      obtain ⟨i, rfl, hi1, hi, rfl, hI⟩ := hrel
      have hab : ac t n0 i < 16777216 := ac_lt t n0 i (by omega) (by omega)
      by_cases hiM : i ≤ 3
      · have hit : i < t.size := by omega
        have hgj := gb_get hit
        have hbj : t[i].toNat < 256 := t[i].toNat_lt
        have HGJ := Hid.of hgj
        have HAC := Hid.of (show ac t n0 (i + 1) = 64 * ac t n0 i + t[i].toNat % 64 by rw [hgj]; exact ac_step t n0 hi1)
        clear hgj
        generalize ac t n0 i = ak at *
        by_cases hd : t[i].toNat / 64 = 2
        · have d1 : ((t[i].toNat : Int) / 64 != 2) = false := by simp; omega
          have HC := Hid.of (cnt_of hit (by rw [← HGJ.out]; exact hd))
          clear hd
          go_wp2
          go_round
          case rel => exact ⟨i + 1, by go_num, by omega, by omega, by rw [HAC.out]; go_num, fun j h1 h2 => by by_cases e : j = i; (subst e; exact HC.out); (exact hI.out j h1 (by omega))⟩
          case measure => simp [intOf]; omega
        · have d1 : ((t[i].toNat : Int) / 64 != 2) = true := by simp; omega
          have HZ := Hid.of (show lwd (Utf8.decode t 0) = 0 by rw [HF.out, if_neg (fun h => by have h9 : cnt t i = true := (if e : i = 1 then e ▸ h.1 else if e2 : i = 2 then e2 ▸ h.2.1 else (show i = 3 by omega) ▸ h.2.2.1); rw [cnt_no (by rw [← HGJ.out]; exact hd)] at h9; cases h9)])
          clear hd
          go_wp2
          go_ret
          rw [HZ.out]
          exact ⟨rfl, rfl⟩
      · obtain rfl : i = 4 := by omega
        have HC := Hid.of (And.intro (hI.out 1 (by omega) (by omega)) (And.intro (hI.out 2 (by omega) (by omega)) (hI.out 3 (by omega) (by omega))))
        have HA := Hid.of (show ac t n0 4 = b0 % 8 * 262144 + gb t 1 % 64 * 4096 + gb t 2 % 64 * 64 + gb t 3 % 64 from by have e2 := ac_step t n0 (i := 1) (by decide); have e3 := ac_step t n0 (i := 2) (by decide); have e4 := ac_step t n0 (i := 3) (by decide); have e1 : ac t n0 1 = n0 := rfl; have := HN0.out; simp only [Nat.reduceAdd] at *; omega)
        obtain ⟨n, hn⟩ : ∃ n, n = ac t n0 4 := ⟨_, rfl⟩
        rw [← hn]
        rw [← hn] at hab HA
        have HNN := Hid.of hn
        clear hn
        by_cases hv : 65536 ≤ n ∧ n ≤ 1114111
        · have HZ := Hid.of (show lwd (Utf8.decode t 0) = 4 by rw [HF.out, if_pos ⟨HC.out.1, HC.out.2.1, HC.out.2.2, by rw [← HA.out]; exact hv⟩])
          have q1 : ¬ (n : Int) < 65536 := by omega
          have q2 : decide ((n : Int) < 65536) = false := by simp; omega
          have q3 : decide ((1114111 : Int) < (n : Int)) = false := by simp; omega
          have q4 : decide ((55296 : Int) ≤ (n : Int)) = true := by simp; omega
          have q5 : decide ((n : Int) ≤ 57343) = false := by simp; omega
          go_wp2
          go_ret
          rw [HZ.out]
          exact ⟨rfl, rfl⟩
        · have HZ := Hid.of (show lwd (Utf8.decode t 0) = 0 by rw [HF.out, if_neg (fun h => hv (by rw [HA.out]; exact h.2.2.2))])
          by_cases hw : n < 65536
          · have q1 : (n : Int) < 65536 := by omega
            go_wp2
            go_ret
            rw [HZ.out]
            exact ⟨rfl, rfl⟩
          have q2 : decide ((n : Int) < 65536) = false := by simp; omega
          have q3 : (1114111 : Int) < (n : Int) := by omega
          go_wp2
          go_ret
          rw [HZ.out]
          exact ⟨rfl, rfl⟩

theorem letter_walk (t : ByteArray) (ht : 0 < t.size) (hts : t.size ≤ 1048576) (w : World) : Calls Tryz.prog 99 #[.string t] w fun e w' => e = .returned (.int .i64 (lwd (Utf8.decode t 0) : Int)) ∧ w' = w := by
  by_cases a1 : t[0].toNat < 128
  · exact letter_low t ht hts w a1
  by_cases a2 : t[0].toNat < 192 ∨ 248 ≤ t[0].toNat
  · exact letter_none t ht hts w a1 a2
  by_cases a3 : t[0].toNat < 224
  · exact letter_two t ht hts w (by omega) a3
  by_cases a4 : t[0].toNat < 240
  · exact letter_three t ht hts w (by omega) a4
  · exact letter_four t ht hts w (by omega) (by omega)
end Go.Proofs.YtaphjbcnnkoffaaGreatDoor
