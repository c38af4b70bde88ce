import Derived.Test.YtfnbodpbdfeiiaaDoorSq
import Derived.Deep.QuietTactic
import Derived.BigQuiet
import Derived.Deep.RegionHeld3
namespace Go.Proofs.YtfnbodpbdfeiiaaDoor
open Go.RowKit Go.Shelf FieldNum

theorem or_add (a b : Int) (k : Nat) (ha : 0 ≤ a) (hb : 0 ≤ b) (haK : a < 2 ^ k) (hbb : b * 2 ^ k < 18446744073709551616) (hk : k < 64) :
    bits .or .u64 a (b * 2 ^ k) = a + b * 2 ^ k := by
  obtain ⟨a, rfl⟩ := Int.eq_ofNat_of_zero_le ha
  obtain ⟨b, rfl⟩ := Int.eq_ofNat_of_zero_le hb
  have e : ((b : Int) * 2 ^ k) = ((b * 2 ^ k : Nat) : Int) := by simp
  have haN : a < 2 ^ k := by
    have : ((2 ^ k : Nat) : Int) = 2 ^ k := by simp
    omega
  rw [e] at hbb ⊢
  have hK : 2 ^ k < 2 ^ 64 := Nat.pow_lt_pow_right (by decide) hk
  rw [bits_or_u64_nat a (b * 2 ^ k) (by omega) (by omega)]
  have h := Nat.two_pow_add_eq_or_of_lt haN b
  rw [Nat.or_comm, Nat.mul_comm b, ← h]
  simp [Int.add_comm]

theorem or_byte (a b : Int) (K : Int) (k : Nat) (hK : K = 2 ^ k) (ha : 0 ≤ a) (hb : 0 ≤ b) (haK : a < K) (hbb : b * K < 18446744073709551616) (hk : k < 64) :
    bits .or .u64 a (b * K) = a + K * b := by
  subst hK
  rw [or_add a b k ha hb haK hbb hk, Int.mul_comm]

set_option maxHeartbeats 1000000 in
theorem word_any (g o : Nat) (cap : Nat) (b0 b1 b2 b3 b4 b5 b6 b7 : Int) (w : World)
    (c0 : w.cell? ⟨g, o, none⟩ = some (.int .u8 b0)) (c1 : w.cell? ⟨g, o + 1, none⟩ = some (.int .u8 b1)) (c2 : w.cell? ⟨g, o + 2, none⟩ = some (.int .u8 b2)) (c3 : w.cell? ⟨g, o + 3, none⟩ = some (.int .u8 b3))
    (c4 : w.cell? ⟨g, o + 4, none⟩ = some (.int .u8 b4)) (c5 : w.cell? ⟨g, o + 5, none⟩ = some (.int .u8 b5)) (c6 : w.cell? ⟨g, o + 6, none⟩ = some (.int .u8 b6)) (c7 : w.cell? ⟨g, o + 7, none⟩ = some (.int .u8 b7))
    (h0 : 0 ≤ b0 ∧ b0 < 256) (h1 : 0 ≤ b1 ∧ b1 < 256) (h2 : 0 ≤ b2 ∧ b2 < 256) (h3 : 0 ≤ b3 ∧ b3 < 256) (h4 : 0 ≤ b4 ∧ b4 < 256) (h5 : 0 ≤ b5 ∧ b5 < 256) (h6 : 0 ≤ b6 ∧ b6 < 256) (h7 : 0 ≤ b7 ∧ b7 < 256) :
    Calls Tryd.prog 36 #[.slice (some ⟨g, o, none⟩) 8 cap] w fun e w' =>
      e = .returned (.int .u64 (b0 + 256 * b1 + 65536 * b2 + 16777216 * b3 + 4294967296 * b4 + 1099511627776 * b5 + 281474976710656 * b6 + 72057594037927936 * b7)) ∧ ∃ m, w' = w.drewN m := by
  go_enter Tryd.func36, Tryd.ntmps36
  go_wp2
  go_quiet (fail)
  go_wp2
  have e1 := or_byte b0 b1 256 8 (by decide) h0.1 h1.1 (by omega) (by omega) (by decide)
  have e2 := or_byte (b0 + 256 * b1) b2 65536 16 (by decide) (by omega) h2.1 (by omega) (by omega) (by decide)
  have e3 := or_byte (b0 + 256 * b1 + 65536 * b2) b3 16777216 24 (by decide) (by omega) h3.1 (by omega) (by omega) (by decide)
  have e4 := or_byte (b0 + 256 * b1 + 65536 * b2 + 16777216 * b3) b4 4294967296 32 (by decide) (by omega) h4.1 (by omega) (by omega) (by decide)
  have e5 := or_byte (b0 + 256 * b1 + 65536 * b2 + 16777216 * b3 + 4294967296 * b4) b5 1099511627776 40 (by decide) (by omega) h5.1 (by omega) (by omega) (by decide)
  have e6 := or_byte (b0 + 256 * b1 + 65536 * b2 + 16777216 * b3 + 4294967296 * b4 + 1099511627776 * b5) b6 281474976710656 48 (by decide) (by omega) h6.1 (by omega) (by omega) (by decide)
  have e7 := or_byte (b0 + 256 * b1 + 65536 * b2 + 16777216 * b3 + 4294967296 * b4 + 1099511627776 * b5 + 281474976710656 * b6) b7 72057594037927936 56 (by decide) (by omega) h7.1 (by omega) (by omega) (by decide)
  rw [e1, e2, e3, e4, e5, e6, e7]
  go_ret
  exact ⟨rfl, _, rfl⟩

/-- the bytes of a number, as cells -/
def bl (n : Nat) : List Value := (List.range 32).map fun i => .int .u8 ((n / 256 ^ i % 256 : Nat) : Int)
/-- .. as an array's value -/
def bv (n : Nat) : Value := .agg (bl n).toArray

theorem bl_length (n : Nat) : (bl n).length = 32 := by simp [bl]
theorem bl_get (n i : Nat) (h : i < 32) : (bl n)[i]? = some (.int .u8 ((n / 256 ^ i % 256 : Nat) : Int)) := by
  simp [bl, h]
theorem bl_one (n : Nat) : ∀ v ∈ bl n, v.oneCell' = true := by
  intro v hv
  simp only [bl, List.mem_map] at hv
  obtain ⟨i, _, rfl⟩ := hv
  rfl

/-- a word out of the bytes of a number -/
theorem word_num (x g o cap : Nat) (w : World) (hr : ∀ j, j < 8 → w.cell? ⟨g, o + j, none⟩ = some (.int .u8 ((x / 256 ^ (o + j) % 256 : Nat) : Int))) :
    Calls Tryd.prog 36 #[.slice (some ⟨g, o, none⟩) 8 cap] w fun e w' =>
      e = .returned (.int .u64 ((x / 256 ^ o % 18446744073709551616 : Nat) : Int)) ∧ ∃ m, w' = w.drewN m := by
  have hy : ∀ j, x / 256 ^ (o + j) = x / 256 ^ o / 256 ^ j := fun j => by rw [Nat.pow_add, Nat.div_div_eq_div_mul]
  simp only [hy] at hr
  generalize x / 256 ^ o = y at *
  have r0 := hr 0 (by decide)
  have r1 := hr 1 (by decide)
  have r2 := hr 2 (by decide)
  have r3 := hr 3 (by decide)
  have r4 := hr 4 (by decide)
  have r5 := hr 5 (by decide)
  have r6 := hr 6 (by decide)
  have r7 := hr 7 (by decide)
  have bd : ∀ n : Nat, 0 ≤ ((n % 256 : Nat) : Int) ∧ ((n % 256 : Nat) : Int) < 256 := fun n => by omega
  refine (word_any g o cap _ _ _ _ _ _ _ _ w r0 r1 r2 r3 r4 r5 r6 r7 (bd _) (bd _) (bd _) (bd _) (bd _) (bd _) (bd _) (bd _)).mono ?_
  rintro e w' ⟨rfl, hw⟩
  refine ⟨?_, hw⟩
  congr 2
  simp only [Nat.reducePow]
  omega
end Go.Proofs.YtfnbodpbdfeiiaaDoor
