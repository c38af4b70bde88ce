import Derived.Test.YtnopkpalohehkaaRg
namespace Tlg
theorem at_step (n k p : Nat) (hp : 2 ^ k = p) : n / 2 ^ (k + 1) * 2 ^ (k + 1) = (n / 2 ^ k - n / 2 ^ k % 2) * p ∧ n / 2 ^ k * p ≤ n ∧ n < (n / 2 ^ k + 1) * p := by
  have h0 : 0 < p := by rw [← hp]; exact Nat.pow_pos (by decide)
  subst hp
  refine ⟨?_, Nat.div_mul_le_self _ _, ?_⟩
  · rw [Nat.pow_succ, ← Nat.div_div_eq_div_mul]
    generalize n / 2 ^ k = q
    rw [Nat.mul_comm (2 ^ k) 2, ← Nat.mul_assoc, show q / 2 * 2 = q - q % 2 by omega]
  · have := Nat.lt_div_mul_add (a := n) h0
    rw [Nat.add_mul, Nat.one_mul]; omega
end Tlg
namespace Go.Proofs.Ytnopkpalohehkaa
open Go.RowKit Tlg

set_option maxRecDepth 100000 in
set_option maxHeartbeats 1000000 in
theorem RPeaks_walk (n : Int) (h0 : -9223372036854775808 ≤ n) (h1 : n ≤ 9223372036854775807) (w : World) :
    Calls Try.prog 20 #[.int .i64 n] w fun e w' => ∃ v, e = .returned (.tuple #[v, .int .i64 (pkE n)]) ∧ OwnI w' w.heap.size v (pks n) ∧ Up w w' := by
  go_enter Try.func20, Try.ntmps20
  by_cases hn : n < 0
  · have HF := Hid.of (pks_no (n := n) (by omega))
    go_wp2
    go_ret2
    rw [HF.out.1, HF.out.2]
    exact ⟨_, rfl, ownI_nil _ _, Up.refl _⟩
  by_cases hm : (281474976710656 : Int) < n
  · have HF := Hid.of (pks_no (n := n) (by omega))
    have d1 : decide (n < 0) = false := by simp; omega
    go_wp2
    go_ret2
    rw [HF.out.1, HF.out.2]
    exact ⟨_, rfl, ownI_nil _ _, Up.refl _⟩
  obtain ⟨m, rfl⟩ : ∃ m : Nat, n = (m : Int) := ⟨n.toNat, by omega⟩
  have d1 : decide ((m : Int) < 0) = false := by simp
  have d2 : decide ((281474976710656 : Int) < (m : Int)) = false := by simp; omega
  have hmb : m ≤ 281474976710656 := by omega
  have HF := Hid.of (pks_yes hmb)
  have H49 : Hid (m / 2 ^ 49 * 2 ^ 49 = 0) := by
    show m / 2 ^ 49 * 2 ^ 49 = 0
    rw [Nat.div_eq_of_lt (Nat.lt_of_le_of_lt hmb (by decide)), Nat.zero_mul]
  clear hn hm
  go_wp2
  go_loopw [4, 5, 6] (fun v4 v5 v6 wr => ∃ k at' : Nat, v5 = .int .i64 (at' : Int) ∧ v6 = .int .i64 ((k : Int) - 1) ∧ k ≤ 49 ∧ at' ≤ m ∧ Hid (m / 2 ^ k * 2 ^ k = at') ∧ Hid (∃ l, OwnI wr w.heap.size v4 l ∧ l ++ pk m k = pk m 49) ∧ Hid (Up w wr)) (fun _ _ v6 _ => (intOf v6 + 1).toNat)
  case atStart => exact ⟨49, 0, rfl, rfl, by omega, by omega, H49, ⟨[], ownI_nil _ _, rfl⟩, Up.refl _⟩
  case round =>
    obtain ⟨k, at', rfl, rfl, hk, hat, hA, hI, hU⟩ := hrel
    obtain ⟨wb, hwb⟩ : ∃ wb, wb = wr := ⟨_, rfl⟩
    subst hwb
    cases k with
    | zero =>
      go_wp2
      go_ret2
      rw [HF.out.1, HF.out.2]
      obtain ⟨l, hl, e⟩ := hI.out
      rw [pk, List.append_nil] at e
      subst e
      exact ⟨_, rfl, hl, hU.out⟩
    | succ k =>
      have e0 : ((k + 1 : Nat) : Int) - 1 = (k : Int) := by omega
      have e1 : (0 : Int) ≤ (k : Int) := by omega
      rw [e0]
      clear e0
      obtain ⟨p, hp⟩ : ∃ p, 2 ^ k = p := ⟨_, rfl⟩
      have hp0 : 1 ≤ p := by rw [← hp]; exact Nat.pow_pos (by decide)
      have hp1 : p ≤ 281474976710656 := by rw [← hp]; exact two48 (by omega)
      have HP := fun w => Hid.of (power_walk k p (by omega) hp w)
      obtain ⟨s1, s2, s3⟩ := at_step m k p hp
      rw [hA.out] at s1
      have HY := fun h => Hid.of (pk_yes (n := m) (k := k) h)
      have HO := fun h => Hid.of (pk_no (n := m) (k := k) h)
      have HQ := fun (h : m / 2 ^ k % 2 = 1) => Hid.of (pk_in h)
      obtain ⟨q, hq⟩ : ∃ q, m / 2 ^ k = q := ⟨_, rfl⟩
      have HA2 : Hid (m / 2 ^ k * 2 ^ k = q * p) := by rw [hq, hp]; rfl
      have hqb : q ≤ m := by rw [← hq]; exact Nat.div_le_self _ _
      rw [hq] at s1 s2 s3 HY HO HQ
      have HQ2 := HQ
      clear hq HQ
      clear hA
      go_wp2_with fail
      refine Calls.mono (HP wb).out ?_
      rintro e w1 ⟨rfl, rfl⟩
      dsimp only
      by_cases hd : q % 2 = 1
      · rw [hd] at s1
        have hz : q * p = at' + p := by
          rw [s1, Nat.sub_mul, Nat.one_mul, Nat.sub_add_cancel]
          exact Nat.le_mul_of_pos_left _ (by omega)
        have hdv : at' / p = q - 1 := by rw [s1, Nat.mul_div_cancel _ (by omega)]
        have hdc : (at' : Int) / (p : Int) = (q : Int) - 1 := by
          have : ((at' / p : Nat) : Int) = ((q - 1 : Nat) : Int) := by rw [hdv]
          simp at this
          omega
        rw [hz] at HA2 s2
        have HX : Hid (idx (k : Int) ((q : Int) - 1) = ((plc k (q - 1) : Int), 0) ∧ True) := by
          rw [show (q : Int) - 1 = ((q - 1 : Nat) : Int) by omega]
          exact ⟨idx_yes (by omega) (Nat.le_trans (HQ2 hd).out hmb), trivial⟩
        have HE := HY hd
        have hge : (p : Int) ≤ (m : Int) - (at' : Int) := by omega
        clear HY HO HQ2 s1 hz hdv s3
        go_wp2_with fail
        refine Calls.mono (RIndex_walk (k : Int) ((q : Int) - 1) (by omega) (by omega) (by omega) (by omega) w1) ?_
        rintro e w2 ⟨rfl, rfl⟩
        rw [HX.out.1]
        dsimp only
        obtain ⟨l, hl, hE⟩ := hI.out
        have HL := Hid.of hl
        have HE2 : Hid ((l ++ [plc k (q - 1)]) ++ pk m k = pk m 49 ∧ l.length ≤ 49) := by
          rw [HE.out] at hE
          refine ⟨by rw [List.append_assoc]; exact hE, ?_⟩
          have := pk_len m 49
          rw [← hE, List.length_append] at this
          omega
        clear hE hl hI HE hdc
        go_wp2_with (with_reducible show wpList _ _ _ ({ dst := _, op := Op.call { callee := Callee.builtin Builtin.append, args := _, argTypes := _ }, type := _, pos := _, after := _, guard := _ } :: _) _ _; refine Shut.out ?_)
        show wpList _ _ _ _ _ _
        refine wpList_appI rfl _ _ rfl w.heap.size _ l (plc k (q - 1)) rfl (by exact HL.out) 1 rfl (by have := HE2.out.2; omega) hU.out.size ?_
        intro v' w3 h3 k3
        have H3 := Hid.of (And.intro h3 (hU.out.step (Nat.le_refl _) k3))
        clear h3 k3
        simp only [Act.put, List.setIfInBounds_toArray, List.set_cons_zero, List.set_cons_succ]
        go_wp2
        go_roundw
        case rel => exact ⟨k, at' + p, by go_num, rfl, by omega, by omega, HA2, ⟨_, H3.out.1, HE2.out.1⟩, H3.out.2⟩
        case measure => simp [intOf]
      · have hd0 : q % 2 = 0 := by omega
        rw [hd0, Nat.sub_zero] at s1
        rw [← s1] at HA2
        have hlt : (m : Int) - (at' : Int) < (p : Int) := by
          rw [Nat.add_mul, Nat.one_mul, ← s1] at s3
          omega
        have hge : ¬ (p : Int) ≤ (m : Int) - (at' : Int) := by omega
        have HE : Hid (∃ l, OwnI w1 w.heap.size u4 l ∧ l ++ pk m k = pk m 49) := by
          obtain ⟨l, hl, e⟩ := hI.out
          rw [(HO hd).out] at e
          exact ⟨l, hl, e⟩
        clear HY HO HQ2 hI s1 s2 s3
        go_wp2
        go_roundw
        case rel => exact ⟨k, at', rfl, rfl, by omega, by omega, HA2, HE, hU⟩
        case measure => simp [intOf]
end Go.Proofs.Ytnopkpalohehkaa
