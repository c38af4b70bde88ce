import Derived.Test.YtnopkpalohehkaaPk
namespace Tlg
def pl (n : Nat) : Nat → Nat
  | 0 => 0
  | k + 1 => n / 2 ^ k % 2 + pl n k
theorem pk_length (n k : Nat) : (pk n k).length = pl n k := by
  induction k with
  | zero => rfl
  | succ k ih =>
    have : n / 2 ^ k % 2 < 2 := Nat.mod_lt _ (by decide)
    by_cases h : n / 2 ^ k % 2 = 1
    · rw [pk_yes h, List.length_cons, pl, ih]; omega
    · rw [pk_no h, pl, ih]; omega
theorem pks7 : (pks 7).length = 3 ∧ pkE 7 = 0 := by
  obtain ⟨a, b⟩ := pks_yes (n := 7) (by decide)
  have a' : pks 7 = pk 7 49 := a
  exact ⟨by rw [a', pk_length]; decide, b⟩
/-- what one round of the law finds -/
theorem peak_at {n k x at' : Nat} {t : List Nat} (hn : n ≤ 281474976710656) (h : pk n k = x :: t) (ha : n / 2 ^ k * 2 ^ k = at') :
    ∃ l d pw z, l < k ∧ 2 ^ l = pw ∧ n / 2 ^ l * 2 ^ l = z ∧ t = pk n l ∧ at' + pw = z ∧ d * pw = at' ∧ d ≤ at' ∧ z ≤ n ∧ pw + pw ≤ 2 ^ k ∧ 1 ≤ pw ∧ x < 562949953421311 ∧ spl (x : Int) = ((l : Int), (d : Int), 0) := by
  obtain ⟨l, h1, h2, h3, h4, h5⟩ := pk_cons h
  have h6 : 1 ≤ n / 2 ^ l := by generalize n / 2 ^ l = q at h4; omega
  have hd : (n / 2 ^ l - 1) * 2 ^ l = at' := by
    rw [Nat.sub_mul, Nat.one_mul]; omega
  have hp : 0 < 2 ^ l := Nat.pow_pos (by decide)
  refine ⟨l, n / 2 ^ l - 1, 2 ^ l, n / 2 ^ l * 2 ^ l, h1, rfl, rfl, h3, by omega, hd, ?_, Nat.div_mul_le_self _ _, ?_, hp, ?_⟩
  · have := Nat.le_mul_of_pos_right (n / 2 ^ l - 1) hp
    omega
  · have : 2 ^ (l + 1) ≤ 2 ^ k := Nat.pow_le_pow_right (by decide) h1
    rw [Nat.pow_succ] at this; omega
  · have hf := Nat.le_trans (pk_in h4) hn
    obtain ⟨hp1, _, _⟩ := plc_lt (l := l) (n := n / 2 ^ l - 1) hf
    obtain ⟨_, hr1, hr2⟩ := of_plc (l := l) (n := n / 2 ^ l - 1) hf
    rw [h2]
    refine ⟨hp1, ?_⟩
    rw [spl_yes hp1, hr1, hr2]
end Tlg
namespace Go.Proofs.Ytnopkpalohehkaa
open Go.RowKit Tlg

set_option maxRecDepth 100000 in
set_option maxHeartbeats 1000000 in
theorem peaks_walk (n : Int) (h0 : -9223372036854775808 ≤ n) (h1 : n ≤ 9223372036854775807) (w : World) :
    Calls Try.prog 4 #[.int .i64 n] w fun e w' => e = .returned (.bool true) ∧ Up w w' := by
  have H7 := Hid.of pks7
  go_enter Try.func4, Try.ntmps4
  go_wp2_with fail
  refine Calls.mono (Peaks_walk 7 (by omega) (by omega) w) ?_
  rintro e w1 ⟨v1, rfl, o1, u1⟩
  obtain ⟨a1, c1, rfl⟩ := o1.len
  clear o1
  rw [H7.out.1, H7.out.2]
  dsimp only
  go_wp2_with fail
  refine Calls.mono (Peaks_walk n h0 h1 w1) ?_
  rintro e w2 ⟨v2, rfl, o2, u2⟩
  have HO := Hid.of o2
  have HU := Hid.of (u1.trans u2)
  clear o2 u1 u2
  by_cases hr : ¬ (0 ≤ n ∧ n ≤ 281474976710656)
  · obtain ⟨e1, e2⟩ := pks_no hr
    rw [e1] at HO
    rw [e2]
    obtain ⟨a2, c2, rfl⟩ := HO.out.len
    dsimp only
    by_cases c : n < 0
    · go_wp2
      go_ret
      exact ⟨rfl, HU.out⟩
    · have d1 : decide (n < 0) = false := by simp; omega
      have d2 : (281474976710656 : Int) < n := by omega
      go_wp2
      go_ret
      exact ⟨rfl, HU.out⟩
  obtain ⟨m, rfl⟩ : ∃ m : Nat, n = (m : Int) := ⟨n.toNat, by omega⟩
  have hmb : m ≤ 281474976710656 := by omega
  obtain ⟨e1, e2⟩ := pks_yes hmb
  rw [e1] at HO
  rw [e2]
  clear e1 e2 hr
  have hl49 := pk_len m 49
  obtain ⟨L, hL⟩ : ∃ L, pk m 49 = L := ⟨_, rfl⟩
  rw [hL] at HO hl49
  obtain ⟨a2, c2, rfl⟩ := HO.out.len
  have d1 : decide ((m : Int) < 0) = false := by simp
  have d2 : decide ((281474976710656 : Int) < (m : Int)) = false := by simp; omega
  have HL := Hid.of hL
  clear hL
  dsimp only
  go_wp2
  go_loopw [7, 8, 9] (fun v7 v8 v9 wr => ∃ i k at' sz : Nat, v7 = .int .i64 (at' : Int) ∧ v8 = .int .i64 (sz : Int) ∧ v9 = .int .i64 (i : Int) ∧ i ≤ L.length ∧ k ≤ 49 ∧ sz ≤ 562949953421312 ∧ at' ≤ m ∧ Hid (L.drop i = pk m k ∧ m / 2 ^ k * 2 ^ k = at' ∧ 2 ^ k ≤ sz) ∧ Hid (Up w2 wr)) (fun _ _ v9 _ => L.length - (intOf v9).toNat)
  case atStart => exact ⟨0, 49, 0, 562949953421312, rfl, rfl, rfl, by omega, by omega, by omega, by omega, ⟨by rw [HL.out]; rfl, by
      rw [Nat.div_eq_of_lt (Nat.lt_of_le_of_lt hmb (by decide)), Nat.zero_mul], by decide⟩, Up.refl _⟩
  case round =>
    obtain ⟨i, k, at', sz, rfl, rfl, rfl, hi, hk, hsz, hat, hI, hU⟩ := hrel
    obtain ⟨wb, hwb⟩ : ∃ wb, wb = wr := ⟨_, rfl⟩
    subst hwb
    by_cases hlt : i < L.length
    · have hlt' : (i : Int) < (L.length : Int) := by omega
      obtain ⟨g, c, hv, hc, hg, hcell⟩ := HO.out.cells (by intro e; rw [e] at hlt; simp at hlt)
      injection hv with ha hn2 hcc
      subst ha hcc
      clear hn2
      have HC := hU.out.cell (hcell i hlt)
      obtain ⟨hd, hat2, hsz2⟩ := hI.out
      have hd2 : pk m k = L[i] :: L.drop (i + 1) := by rw [← hd]; exact List.drop_eq_getElem_cons hlt
      obtain ⟨l, d, pw, z, p1, p2, p3, p4, p5, p6, p7, p8, p9, p10, p11, p12⟩ := peak_at hmb hd2 hat2
      have HN : Hid (L.drop (i + 1) = pk m l ∧ m / 2 ^ l * 2 ^ l = z ∧ 2 ^ l ≤ pw) := ⟨p4, p3, by omega⟩
      have HS := Hid.of (And.intro p12 trivial)
      have hw : pw < sz := by omega
      have hs : (2 : Int) ^ l = (pw : Int) := by rw [← p2]; simp
      have hpm : (d : Int) * (pw : Int) = (at' : Int) := by rw [← p6]; simp
      have hpm2 : (at' : Int) + (pw : Int) = (z : Int) := by omega
      have hwz : pw ≤ z := by omega
      have p11' := p11
      obtain ⟨P, hP⟩ : ∃ P, L[i] = P := ⟨_, rfl⟩
      rw [hP] at HS HC p11'
      have HP := Hid.of hP
      have H2 := Hid.of p2
      clear hd hat2 hsz2 hd2 p2 p3 p4 p5 p6 p9 p11 p12 hcell hP hI
      have hl48 : l ≤ 48 := by omega
      have hmx : max (0 : Int) (min (l : Int) 48) = (l : Int) := by omega
      have hmx2 : (max (0 : Int) (min (l : Int) 48)).toNat = l := by omega
      go_wp2_with fail
      refine Calls.mono (Split_walk (P : Int) (by omega) (by omega) wb) ?_
      rintro e w4 ⟨rfl, u4⟩
      rw [HS.out.1]
      dsimp only
      have H4 := Hid.of u4
      clear u4
      go_wp2
      go_roundw
      case rel => exact ⟨i + 1, l, z, pw, by go_num, by go_num, by go_num, by omega, by omega, by omega, by omega, HN, hU.out.trans H4.out⟩
      case measure => simp [intOf]; omega
    · obtain rfl : i = L.length := by omega
      have hE : at' = m := by
        obtain ⟨hd, hat2, _⟩ := hI.out
        rw [List.drop_length] at hd
        rw [← hat2, pk_nil hd.symm]
      subst hE
      go_wp2
      go_ret
      exact ⟨rfl, HU.out.trans hU.out⟩
end Go.Proofs.Ytnopkpalohehkaa
