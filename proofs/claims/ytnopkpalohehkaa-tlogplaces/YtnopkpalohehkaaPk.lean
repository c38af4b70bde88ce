import Derived.Test.YtnopkpalohehkaaWb
import Derived.Test.YtnopkpalohehkaaOw
import Derived.Lib.RabinKarpLaws
namespace Tlg
/-- Peaks' answer -/
def pks (n : Int) : List Nat := if 0 ≤ n ∧ n ≤ 281474976710656 then pk n.toNat 49 else []
def pkE (n : Int) : Int := if 0 ≤ n ∧ n ≤ 281474976710656 then 0 else 1
theorem pks_yes {n : Nat} (h : n ≤ 281474976710656) : pks (n : Int) = pk n 49 ∧ pkE (n : Int) = 0 := by
  unfold pks pkE
  rw [if_pos ⟨by omega, by omega⟩, if_pos ⟨by omega, by omega⟩, Int.toNat_natCast]
  exact ⟨rfl, rfl⟩
theorem pks_no {n : Int} (h : ¬ (0 ≤ n ∧ n ≤ 281474976710656)) : pks n = [] ∧ pkE n = 1 := by
  unfold pks pkE
  rw [if_neg h, if_neg h]
  exact ⟨rfl, rfl⟩
end Tlg
namespace Go.Proofs.Ytnopkpalohehkaa
open Go.RowKit Tlg

set_option maxRecDepth 100000 in
set_option maxHeartbeats 1000000 in
theorem Peaks_walk (n : Int) (h0 : -9223372036854775808 ≤ n) (h1 : n ≤ 9223372036854775807) (w : World) :
    Calls Try.prog 10 #[.int .i64 n] w fun e w' => ∃ v, e = .returned (.tuple #[v, .int .i64 (pkE n)]) ∧ OwnL w' w.heap.size v (pks n) ∧ Up w w' := by
  go_enter Try.func10, Try.ntmps10
  by_cases hn : n < 0
  · have HF := Hid.of (pks_no (n := n) (by omega))
    go_wp2
    go_ret2
    rw [HF.out.1, HF.out.2]
    exact ⟨_, rfl, ownL_nil _ _, Up.refl _⟩
  by_cases hm : (281474976710656 : Int) < n
  · have HF := Hid.of (pks_no (n := n) (by omega))
    have d1 : decide (n < 0) = false := by simp; omega
    go_wp2
    go_ret2
    rw [HF.out.1, HF.out.2]
    exact ⟨_, rfl, ownL_nil _ _, Up.refl _⟩
  obtain ⟨m, rfl⟩ : ∃ m : Nat, n = (m : Int) := ⟨n.toNat, by omega⟩
  have d1 : decide ((m : Int) < 0) = false := by simp
  have d2 : decide ((281474976710656 : Int) < (m : Int)) = false := by simp; omega
  have hmb : m ≤ 281474976710656 := by omega
  have HF := Hid.of (pks_yes hmb)
  clear hn hm
  go_wp2
  go_loopw [4, 5] (fun v4 v5 wr => ∃ k : Nat, v5 = .int .i64 ((k : Int) - 1) ∧ k ≤ 49 ∧ Hid (∃ l, OwnL wr w.heap.size v4 l ∧ l ++ pk m k = pk m 49) ∧ Hid (Up w wr)) (fun _ v5 _ => (intOf v5 + 1).toNat)
  case atStart => exact ⟨49, rfl, by omega, ⟨[], ownL_nil _ _, rfl⟩, Up.refl _⟩
  case round =>
    obtain ⟨k, rfl, hk, hI, hU⟩ := hrel
    obtain ⟨wb, hwb⟩ : ∃ wb, wb = wr := ⟨_, rfl⟩
    subst hwb
    cases k with
    | zero =>
      go_wp2
      go_ret2
      rw [HF.out.1, HF.out.2]
      obtain ⟨l, hl, e⟩ := hI.out
      rw [pk, List.append_nil] at e
      subst e
      exact ⟨_, rfl, hl, hU.out⟩
    | succ k =>
      have e0 : ((k + 1 : Nat) : Int) - 1 = (k : Int) := by omega
      have e1 : (0 : Int) ≤ (k : Int) := by omega
      rw [e0]
      clear e0
      have hs : (m : Int) / 2 ^ k = ((m / 2 ^ k : Nat) : Int) := by simp
      have HY := fun h => Hid.of (pk_yes (n := m) (k := k) h)
      have HO := fun h => Hid.of (pk_no (n := m) (k := k) h)
      have HQ := fun (h : m / 2 ^ k % 2 = 1) => Hid.of (pk_in h)
      have hqb : m / 2 ^ k ≤ m := Nat.div_le_self _ _
      obtain ⟨q, hq⟩ : ∃ q, m / 2 ^ k = q := ⟨_, rfl⟩
      rw [hq] at hs HY HO HQ hqb
      clear hq
      have e2 : bits BinOp.and IntKind.i64 (q : Int) 1 = ((q % 2 : Nat) : Int) := Go.Proofs.and_one q (by omega)
      by_cases hd : q % 2 = 1
      · have HC := fun w => Hid.of (placeOf_walk k (q - 1) (by omega) (Nat.le_trans (HQ hd).out hmb) w)
        have HE := HY hd
        have e3 : (q : Int) - 1 = ((q - 1 : Nat) : Int) := by omega
        rw [hd] at e2
        clear HY HO HQ
        go_wp2_with fail
        refine Calls.mono (HC wb).out ?_
        rintro e w1 ⟨rfl, rfl⟩
        dsimp only
        obtain ⟨l, hl, hE⟩ := hI.out
        have HL := Hid.of hl
        have HE2 : Hid ((l ++ [plc k (q - 1)]) ++ pk m k = pk m 49 ∧ l.length ≤ 49) := by
          rw [HE.out] at hE
          refine ⟨by rw [List.append_assoc]; exact hE, ?_⟩
          have := pk_len m 49
          rw [← hE, List.length_append] at this
          omega
        clear hE hl hI HE
        go_wp2_with (with_reducible show wpList _ _ _ ({ dst := _, op := Op.call { callee := Callee.builtin Builtin.append, args := _, argTypes := _ }, type := _, pos := _, after := _, guard := _ } :: _) _ _; refine Shut.out ?_)
        show wpList _ _ _ _ _ _
        refine wpList_appL rfl _ _ rfl w.heap.size _ l (plc k (q - 1)) rfl (by exact HL.out) 1 rfl (by have := HE2.out.2; omega) hU.out.size ?_
        intro v' w3 h3 k3
        have H3 := Hid.of (And.intro h3 (hU.out.step (Nat.le_refl _) k3))
        clear h3 k3
        simp only [Act.put, List.setIfInBounds_toArray, List.set_cons_zero, List.set_cons_succ]
        go_wp2
        go_roundw
        case rel => exact ⟨k, rfl, by omega, ⟨_, H3.out.1, HE2.out.1⟩, H3.out.2⟩
        case measure => simp [intOf]
      · have hd0 : q % 2 = 0 := by omega
        rw [hd0] at e2
        have HE : Hid (∃ l, OwnL wb w.heap.size u4 l ∧ l ++ pk m k = pk m 49) := by
          obtain ⟨l, hl, e⟩ := hI.out
          rw [(HO hd).out] at e
          exact ⟨l, hl, e⟩
        clear HY HO HQ hI
        go_wp2
        go_roundw
        case rel => exact ⟨k, rfl, by omega, HE, hU⟩
        case measure => simp [intOf]
end Go.Proofs.Ytnopkpalohehkaa
