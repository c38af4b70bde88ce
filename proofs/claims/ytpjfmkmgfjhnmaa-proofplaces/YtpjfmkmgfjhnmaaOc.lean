import Derived.Test.YtpjfmkmgfjhnmaaTw
import Derived.Laws.Bits64b
import Derived.Laws.Bits128
namespace Go.Proofs.Ytpjfmkmgfjhnmaa
open Go.RowKit Tlg

theorem and64 (a m k : Nat) (ha : a < 18446744073709551616) (hm : m < 18446744073709551616) (hk : a &&& m = k) : bits .and .u64 (a : Int) (m : Int) = (k : Int) := by
  rw [← hk]; exact Go.bits_and_u64_nat a m ha hm
set_option maxRecDepth 100000 in
theorem Ones_walk (x : Nat) (hx : x < 18446744073709551616) (w : World) : Calls Try.prog 26 #[.int .u64 (x : Int)] w fun e w' => e = .returned (.int .i64 (pc x : Int)) ∧ w' = w := by
  obtain ⟨u1, hu1⟩ : ∃ u, x / 2 &&& 6148914691236517205 = u := ⟨_, rfl⟩
  obtain ⟨u2, hu2⟩ : ∃ u, x &&& 6148914691236517205 = u := ⟨_, rfl⟩
  have bu1 : u1 ≤ 6148914691236517205 := by rw [← hu1]; exact Nat.and_le_right
  have bu2 : u2 ≤ 6148914691236517205 := by rw [← hu2]; exact Nat.and_le_right
  obtain ⟨y, hy⟩ : ∃ y, u1 + u2 = y := ⟨_, rfl⟩
  obtain ⟨v1, hv1⟩ : ∃ u, y / 4 &&& 3689348814741910323 = u := ⟨_, rfl⟩
  obtain ⟨v2, hv2⟩ : ∃ u, y &&& 3689348814741910323 = u := ⟨_, rfl⟩
  have bv1 : v1 ≤ 3689348814741910323 := by rw [← hv1]; exact Nat.and_le_right
  have bv2 : v2 ≤ 3689348814741910323 := by rw [← hv2]; exact Nat.and_le_right
  obtain ⟨z, hz⟩ : ∃ y, v1 + v2 = y := ⟨_, rfl⟩
  obtain ⟨t, ht⟩ : ∃ u, z / 16 + z &&& 1085102592571150095 = u := ⟨_, rfl⟩
  obtain ⟨a, ha⟩ : ∃ u, t + t / 256 = u := ⟨_, rfl⟩
  obtain ⟨b, hb⟩ : ∃ u, a + a / 65536 = u := ⟨_, rfl⟩
  obtain ⟨c, hc⟩ : ∃ u, b + b / 4294967296 = u := ⟨_, rfl⟩
  have hs : t = s3 8 (s2 8 (s1 8 x)) := by
    have e1 : s1 8 x = y := by unfold s1; rw [show msk 85 8 = 6148914691236517205 by decide, hu1, hu2, hy]
    have e2 : s2 8 y = z := by unfold s2; rw [show msk 51 8 = 3689348814741910323 by decide, hv1, hv2, hz]
    have e3 : s3 8 z = t := by unfold s3; rw [show msk 15 8 = 1085102592571150095 by decide, ht]
    rw [e1, e2, e3]
  obtain ⟨b1, b2, b3, b4, hp⟩ := swar hx t a b c hs ha.symm hb.symm hc.symm
  have HP := Hid.of hp
  clear hp hs
  have c1 : bits .and .u64 ((x : Int) / 2) 6148914691236517205 = (u1 : Int) := and64 (x / 2) 6148914691236517205 u1 (by omega) (by omega) hu1
  have c2 : bits .and .u64 (x : Int) 6148914691236517205 = (u2 : Int) := and64 x 6148914691236517205 u2 (by omega) (by omega) hu2
  have c3 : (u1 : Int) + (u2 : Int) = (y : Int) := by omega
  have c4 : bits .and .u64 ((y : Int) / 4) 3689348814741910323 = (v1 : Int) := and64 (y / 4) 3689348814741910323 v1 (by omega) (by omega) hv1
  have c5 : bits .and .u64 (y : Int) 3689348814741910323 = (v2 : Int) := and64 y 3689348814741910323 v2 (by omega) (by omega) hv2
  have c6 : (v1 : Int) + (v2 : Int) = (z : Int) := by omega
  have c7 : bits .and .u64 ((z : Int) / 16 + (z : Int)) 1085102592571150095 = (t : Int) := and64 (z / 16 + z) 1085102592571150095 t (by omega) (by omega) ht
  have c8 : (t : Int) + (t : Int) / 256 = (a : Int) := by omega
  have c9 : (a : Int) + (a : Int) / 65536 = (b : Int) := by omega
  have c10 : (b : Int) + (b : Int) / 4294967296 = (c : Int) := by omega
  have c11 : bits .and .i64 (c : Int) 127 = ((c % 128 : Nat) : Int) := by rw [Go.i64_and127]; omega
  have b5 : y < 18446744073709551616 := by omega
  have b6 : z ≤ 7378697629483820646 := by omega
  rw [← HP.out]
  clear hu1 hu2 hy hv1 hv2 hz ht ha hb hc HP
  go_enter Try.func26, Try.ntmps26
  go_wp2
  go_ret
  exact ⟨rfl, rfl⟩
end Go.Proofs.Ytpjfmkmgfjhnmaa
