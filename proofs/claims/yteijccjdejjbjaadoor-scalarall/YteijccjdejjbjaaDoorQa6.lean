import Derived.Test.YteijccjdejjbjaaDoorQa5
namespace Go.Proofs.YteijccjdejjbjaaDoor
open Go.RowKit Go.Shelf ScalarNum

theorem st_div_low {b v k z : Nat} (hb : 0 < b) : st b v k z / b ^ k = v / b ^ (k + 1) * b + z := by
  have hp : 0 < b ^ k := Nat.pow_pos hb
  have e : st b v k z = b ^ k * (v / b ^ (k + 1) * b + z) + v % b ^ k := by
    unfold st
    generalize v / b ^ (k + 1) = q
    rw [Nat.mul_add, Nat.mul_comm (b ^ k) z, Nat.pow_succ, ← Nat.mul_assoc (b ^ k), Nat.mul_comm (b ^ k) q, Nat.mul_assoc]
  rw [e, Nat.mul_add_div hp, Nat.div_eq_of_lt (Nat.mod_lt _ hp), Nat.add_zero]
theorem st_mod_low {b v k z : Nat} : st b v k z % b ^ k = v % b ^ k := by
  unfold st
  have e : v / b ^ (k + 1) * b ^ (k + 1) + z * b ^ k + v % b ^ k = v % b ^ k + (v / b ^ (k + 1) * b + z) * b ^ k := by
    rw [Nat.add_mul, Nat.pow_succ, Nat.mul_assoc _ b, Nat.mul_comm b]
    omega
  rw [e, Nat.add_mul_mod_self_right, Nat.mod_mod]
theorem hv_word (q : Nat) : q / 18446744073709551616 / 2 * 18446744073709551616 + (q % 18446744073709551616 / 2 + q / 18446744073709551616 % 2 * 9223372036854775808) = q / 2 ∧ q % 18446744073709551616 % 2 = q % 2 ∧ q % 18446744073709551616 / 2 + q / 18446744073709551616 % 2 * 9223372036854775808 < 18446744073709551616 := by omega
theorem hv_step {cur v T k : Nat} (h1 : cur / B ^ (k + 1) = T / B ^ (k + 1) / 2) (h2 : cur % B ^ (k + 1) = v % B ^ (k + 1)) (h3 : dg B v k = T / B ^ k % B) :
    dg B cur k = dg B v k ∧ dg B v k / 2 + T / B ^ (k + 1) % 2 * 9223372036854775808 < B ∧
    st B cur k (dg B v k / 2 + T / B ^ (k + 1) % 2 * 9223372036854775808) / B ^ k = T / B ^ k / 2 ∧
    st B cur k (dg B v k / 2 + T / B ^ (k + 1) % 2 * 9223372036854775808) % B ^ k = v % B ^ k ∧ dg B v k % 2 = T / B ^ k % 2 := by
  have e0 : dg B cur k = dg B v k := by
    have a1 : ∀ x, dg B x k = x % B ^ (k + 1) / B ^ k := by
      intro x
      unfold dg
      rw [Nat.pow_succ, Nat.mod_mul_right_div_self]
    rw [a1, a1, h2]
  have e1 : T / B ^ (k + 1) = T / B ^ k / B := by rw [Nat.pow_succ, Nat.div_div_eq_div_mul]
  obtain ⟨w1, w2, w3⟩ := hv_word (T / B ^ k)
  rw [h3, e1]
  refine ⟨by rw [e0, h3], w3, ?_, ?_, w2⟩
  · rw [st_div_low B_pos, h1, e1]; exact w1
  · rw [st_mod_low]
    have : cur % B ^ (k + 1) % B ^ k = v % B ^ (k + 1) % B ^ k := by rw [h2]
    rwa [Nat.pow_succ, Nat.mod_mul_right_mod, Nat.mod_mul_right_mod] at this

theorem or63 (a c : Nat) (ha : a < 9223372036854775808) (hc : c ≤ 1) : bits .or .u64 (a : Int) ((c : Int) * 9223372036854775808) = ((a + c * 9223372036854775808 : Nat) : Int) := by
  have := or_nat a c 63 ha (by
    have : B = 18446744073709551616 := rfl
    have e : (2 : Nat) ^ 63 = 9223372036854775808 := by decide
    rw [e]; omega)
  rw [show (2 : Int) ^ 63 = 9223372036854775808 from by decide, show (2 : Nat) ^ 63 = 9223372036854775808 from by decide, Nat.add_comm, IntKind.wrap_u64, show (c : Int) * 9223372036854775808 % 18446744073709551616 = (c : Int) * 9223372036854775808 by omega] at this
  exact this
theorem and1 (q : Nat) (hq : q < B) : bits .and .u64 (q : Int) 1 = ((q % 2 : Nat) : Int) := by
  have := bits_and_u64_nat q 1 hq (by omega)
  have e : q &&& 1 = q % 2 := Nat.and_two_pow_sub_one_eq_mod q 1
  rw [e] at this
  exact this

structure VX (w0 : World) (b cur : Nat) (wr : World) : Prop where
  rx : wr.rangeAt b 0 (wl 4 cur)
  tx : wr.there b 0 4
  gw : GB b w0 wr

theorem dg_sum (v c k : Nat) (hk : k < 4) : dg B v k = (v + c * M) / B ^ k % B := by
  show dg B v k = dg B (v + c * M) k
  rw [Nat.add_comm, ← B4, dg_low B_pos _ _ _ _ hk]

set_option maxRecDepth 100000 in
set_option maxHeartbeats 4000000 in
theorem halve_num (b v c : Nat) (hv : v < M) (hc : c ≤ 1) (w : World) (hr : w.rangeAt b 0 (wl 4 v)) (ht : w.there b 0 4) :
    Calls Tryd.prog 68 #[.pointer (some ⟨b, 0, none⟩), .int .u64 (c : Int)] w fun e w' => e = .returned (.tuple #[]) ∧ GB b w w' ∧ w'.rangeAt b 0 (wl 4 ((v + c * M) / 2)) ∧ w'.there b 0 4 := by
  have H0 := Hid.of (show VX w b v w from ⟨hr, ht, GB.refl _ _⟩)
  have T0 := Hid.of (show v / B ^ 4 = (v + c * M) / B ^ 4 / 2 ∧ c = (v + c * M) / B ^ 4 % 2 by
    rw [B4, Nat.add_mul_div_right _ _ (show 0 < M by decide), Nat.div_eq_of_lt hv, Nat.zero_add]
    omega)
  have HS := Hid.of (fun k (h : k < 4) => dg_sum v c k h)
  clear hr ht
  generalize hT : v + c * M = T at *
  have HT := Hid.of hT
  clear hT
  go_enter Tryd.func68, Tryd.ntmps68
  go_wp2
  go_loopw [1, 6] (fun v1 v6 wr => ∃ i k cur cc : Nat, v6 = .int .i64 (i : Int) ∧ v1 = .int .u64 (cc : Int) ∧ i + k = 4 ∧ cc ≤ 1 ∧ cur / B ^ k = T / B ^ k / 2 ∧ cur % B ^ k = v % B ^ k ∧ cc = T / B ^ k % 2 ∧ VX w b cur wr) (fun _ v6 _ => 4 - (intOf v6).toNat)
  case atStart => exact ⟨0, 4, v, c, rfl, rfl, rfl, hc, T0.out.1, rfl, T0.out.2, H0.out⟩
  case round =>
    obtain ⟨i, k, cur, cc, rfl, rfl, hik, hcc, h1, h2, h3, hX⟩ := hrel
    clear H0 T0
    rcases k with _ | k
    · have hi4 : i = 4 := by omega
      subst hi4
      rw [Nat.pow_zero, Nat.div_one, Nat.div_one] at h1
      have HX := Hid.of hX
      have H1 := Hid.of h1
      clear h1 h2 h3 hX hik hcc
      go_wp2
      go_end0
      rw [← H1.out]
      exact ⟨rfl, HX.out.gw, HX.out.rx, HX.out.tx⟩
    · have hk4 : k < 4 := by omega
      obtain ⟨e0, e1, e2, e3, e4⟩ := hv_step h1 h2 (HS.out k hk4)
      rw [← h3] at e1 e2 e3
      have d1 : wr.cell? ⟨b, k, none⟩ = some (.int .u64 (dg B v k : Nat)) := by
        have := hX.rx k _ (wl_get 4 _ k hk4); rwa [Nat.zero_add, e0] at this
      have d2 : wr.frozen? ⟨b, k, none⟩ = false := by
        have := (hX.tx k hk4).2; rwa [Nat.zero_add] at this
      have hd : dg B v k < B := dg_lt B_pos
      have hd2 : dg B v k / 2 < 9223372036854775808 := by
        have hB : dg B v k < 18446744073709551616 := hd
        clear h1 h2 h3 e0 e1 e2 e3 e4 d1 d2 hd hik
        omega
      have f1 := or63 (dg B v k / 2) cc hd2 hcc
      have f2 := and1 _ hd
      have f3 : (dg B v k : Int) / 2 = ((dg B v k / 2 : Nat) : Int) := by simp
      have hset := fun z (hz : z < B) => wrange_set hX.rx hz hk4
      have HY := Hid.of (And.intro e1 (And.intro e2 (And.intro e3 (And.intro e4 (And.intro hset hX)))))
      clear e0 e1 e2 e3 e4 h1 h2 h3 hset hX hd hd2
      generalize dg B v k / 2 + cc * 9223372036854775808 = nw at *
      generalize dg B v k / 2 = hf at *
      generalize dg B v k % 2 = c2 at *
      generalize dg B v k = lm at *
      have ei : (3 : Int) - (i : Int) = (k : Int) := by omega
      have b1 : (i : Int) < 4 := by omega
      have b2 : (k : Int) < 4 := by omega
      go_wp2
      go_roundw
      case rel =>
        obtain ⟨e1, e2, e3, e4, hset, hX⟩ := HY.out
        exact ⟨i + 1, k, st B cur k nw, c2, by go_num, rfl, by omega, by rw [e4]; exact Nat.le_of_lt_succ (Nat.mod_lt _ (by decide)), e2, e3, e4, hset nw e1, there_setCell hX.tx _ _, GB.setCell hX.gw _⟩
      case measure => simp [intOf]; omega
end Go.Proofs.YteijccjdejjbjaaDoor
