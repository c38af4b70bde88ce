import Derived.Test.YtpjfmkmgfjhnmaaPa
namespace Tlg
/-- n & (n - 1) is zero just where n is a power of two -/
theorem and_pred {n : Nat} (h : 0 < n) : n &&& (n - 1) = 0 ↔ Wh n := by
  have h1 := lg_le h
  have h2 := lg_lt n
  constructor
  · intro e
    unfold Wh
    rcases Nat.lt_or_ge (2 ^ lg n) n with hl | hl
    · exfalso
      have b1 : n.testBit (lg n) = true := by
        rw [Nat.testBit_eq_decide_div_mod_eq]
        have : n / 2 ^ lg n = 1 := by
          rw [Nat.div_eq_iff (Nat.pow_pos (by decide))]
          rw [Nat.pow_succ] at h2
          omega
        rw [this]; rfl
      have b2 : (n - 1).testBit (lg n) = true := by
        rw [Nat.testBit_eq_decide_div_mod_eq]
        have : (n - 1) / 2 ^ lg n = 1 := by
          rw [Nat.div_eq_iff (Nat.pow_pos (by decide))]
          rw [Nat.pow_succ] at h2
          omega
        rw [this]; rfl
      have := Nat.testBit_and n (n - 1) (lg n)
      rw [e, b1, b2] at this
      simp at this
    · omega
  · intro e
    unfold Wh at e
    rw [e]
    have := Nat.and_two_pow_sub_one_eq_mod (2 ^ lg n) (lg n)
    rw [this, Nat.mod_self]
end Tlg
namespace Go.Proofs.Ytpjfmkmgfjhnmaa
open Go.RowKit Tlg
theorem and_i64 (a b : Nat) (ha : a < 9223372036854775808) (hb : b < 9223372036854775808) : bits BinOp.and IntKind.i64 (a : Int) (b : Int) = ((a &&& b : Nat) : Int) := by
  have hx : a &&& b < 2 ^ 63 := Nat.and_lt_two_pow _ (by omega)
  show IntKind.i64.wrap ((BitVec.ofInt 64 (a : Int) &&& BitVec.ofInt 64 (b : Int)).toNat : Int) = _
  rw [BitVec.toNat_and, BitVec.ofInt_natCast, BitVec.ofInt_natCast, BitVec.toNat_ofNat, BitVec.toNat_ofNat, Nat.mod_eq_of_lt (by omega), Nat.mod_eq_of_lt (by omega), IntKind.wrap_i64]
  omega
def wh (n : Nat) : Bool := n == 2 ^ lg n
theorem wh_iff {n : Nat} : wh n = true ↔ Wh n := by unfold wh Wh; simp
theorem and_wh {n : Nat} (h : 0 < n) (hn : n < 9223372036854775808) : (bits BinOp.and IntKind.i64 (n : Int) ((n - 1 : Nat) : Int) == 0) = wh n := by
  rw [and_i64 n (n - 1) hn (by omega)]
  rcases hw : wh n with _ | _
  · have : ¬ Wh n := fun h => by rw [wh_iff.2 h] at hw; cases hw
    rw [← and_pred h] at this
    simp
    omega
  · have := (and_pred h).2 (wh_iff.1 hw)
    rw [this]
    rfl

set_option maxRecDepth 100000 in
theorem whole_walk (a b : Nat) (h : a < b) (hb : b ≤ 281474976710656) (w : World) : Calls Try.prog 19 #[sp a b] w fun e w' => e = .returned (.bool (wh (b - a))) ∧ Up w w' := by
  have HU : Hid (∀ o, Up w (w.alloc o)) := fun o => (Up.refl _).alloc o
  have HW := Hid.of (and_wh (n := b - a) (by omega) (by omega))
  have HS := fun w => Hid.of (size_walk a b (by omega) hb w)
  have e1 : ((b - a : Nat) : Int) - 1 = ((b - a - 1 : Nat) : Int) := by omega
  have hnb : b - a ≤ 281474976710656 := by omega
  clear h hb
  generalize b - a = n at HW HS e1 hnb ⊢
  have HC : Hid ((w.alloc (.cells #[.int .i64 (a : Int), .int .i64 (b : Int)] 41)).cell? ⟨w.heap.size, 0, none⟩ = some (.int .i64 (a : Int)) ∧ (w.alloc (.cells #[.int .i64 (a : Int), .int .i64 (b : Int)] 41)).cell? ⟨w.heap.size, 1, none⟩ = some (.int .i64 (b : Int))) := ⟨by simp, by simp⟩
  go_enter Try.func19, Try.ntmps19
  go_wp2_with fail
  obtain ⟨W, hW⟩ : ∃ W, W = w.alloc (.cells #[.int .i64 (a : Int), .int .i64 (b : Int)] 41) := ⟨_, rfl⟩
  rw [← hW] at HC ⊢
  have HU1 : Hid (Up w W) := by rw [hW]; exact HU.out _
  clear hW HU
  obtain ⟨c0, c1⟩ := HC.out
  clear HC
  go_region_held3 (fun w2 => w2.cell? ⟨w.heap.size, 0, none⟩ = some (.int .i64 (a : Int)) ∧ w2.cell? ⟨w.heap.size, 1, none⟩ = some (.int .i64 (b : Int)) ∧ Up W w2)
    (first
      | exact ⟨c0, c1, (Up.refl _).drew⟩
      | exact ⟨(‹Up _ _›).cell (‹_ ∧ _ ∧ Up W _›).1, (‹Up _ _›).cell (‹_ ∧ _ ∧ Up W _›).2.1, (‹_ ∧ _ ∧ Up W _›).2.2.trans ‹Up _ _›⟩)
    (first
      | (go_at_call 21; refine ((HS _).out).mono ?_; rintro e w5 ⟨rfl, u5⟩))
  have HU5 := Hid.of (HU1.out.trans (‹_ ∧ _ ∧ Up W _›).2.2)
  go_wp2
  go_ret
  have hwp : IntKind.i64.wrap ((n - 1 : Nat) : Int) = ((n - 1 : Nat) : Int) := by rw [IntKind.wrap_i64]; omega
  rw [hwp, HW.out]
  exact ⟨rfl, HU5.out⟩
end Go.Proofs.Ytpjfmkmgfjhnmaa
