import Derived.Test.YtoimglbjepppmaaDoorMj
import Derived.Test.YtoimglbjepppmaaDoorMk
namespace FieldNum
theorem rok_sq (u : Nat) : rok (u * u % p) 1 := by
  by_cases h : u % p = 0
  · left
    rw [mm, Nat.mul_mod, h]; simp
  · right
    rw [Nat.mul_one, hp_mod]
    exact hp_sq1 h
theorem two_ne {u : Nat} (h : u % p ≠ 0) : (u + u) % p ≠ 0 := by
  have e : u + u = 2 * u := by omega
  rw [e]
  exact mul_ne (by decide +kernel) h
theorem rok_twice {u v : Nat} (hu : u % p ≠ 0) (hv : v % p ≠ 0) : rok ((u + u) % p) v ↔ ¬ rok u v := by
  have e : hp ((u + u) % p * v) = hp 2 * hp (u * v) % p := by
    rw [← hp_mul', ← hp_mod, ← hp_mod (2 * (u * v))]
    congr 1
    have : 2 * (u * v) = (u + u) * v := by grind
    rw [this]
    exact mcong (mm _) rfl
  have k1 : p - 1 ≠ 1 := by decide +kernel
  have k3 : (p - 1) * (p - 1) % p = 1 := by decide +kernel
  have k4 : (p - 1) * 1 % p = p - 1 := by decide +kernel
  have huv := mul_ne hu hv
  unfold rok
  rw [mm, e, hp_two]
  rcases hp_cases (u * v) with ⟨h, _⟩ | ⟨_, h | h⟩
  · exact absurd h huv
  · rw [h, k4]
    constructor
    · rintro (h2 | h2)
      · exact absurd h2 (two_ne hu)
      · exact absurd h2 k1
    · intro h2; exact absurd (.inr rfl) h2
  · rw [h, k3]
    constructor
    · rintro _ (h2 | h2)
      · exact hu h2
      · exact k1 h2
    · intro _; exact .inr rfl
theorem leg_rok {u v : Nat} (hu : u % p ≠ 0) : leg (u * v % p) = 1 ↔ rok u v := by
  rw [leg_mod]
  unfold leg rok
  have k1 : p - 1 ≠ 1 := by decide +kernel
  have k0 : p - 1 ≠ 0 := by decide +kernel
  rcases hp_cases (u * v) with ⟨_, h⟩ | ⟨_, h | h⟩ <;> simp [h, hu, k1, k0]
theorem not_rok_zero {u v : Nat} (hu : u % p ≠ 0) (hv : v % p = 0) : ¬ rok u v := by
  rintro (h | h)
  · exact hu h
  · exact absurd (hp_one_ne h) (by rw [Nat.mul_mod, hv]; simp)
end FieldNum
namespace Go.Proofs.YtoimglbjepppmaaDoor
open Go.RowKit Go.Shelf FieldNum
theorem exec_eq8 {o : Oper} {ρ : Operand → Value} {x y : Operand} {t : TypeId} {w : World} (c d : Nat) (ho : o.op = .binOp .eql 5 x y t) (hx : ρ x = .int .u8 c) (hy : ρ y = .int .u8 d) (b : Bool) (hb : decide (c = d) = b) : (execOp ρ o).run Tryd.prog w = .ok (.value (.bool b)) w := by
  subst hb
  unfold execOp
  simp only [ho, hx, hy]
  simp [go_sem]
  by_cases h : c = d
  · simp [h]
  · have h2 : ¬ (c : Int) = d := by omega
    simp [h, h2]
theorem cell_low {w : World} {b n : Nat} (h : w.rangeAt b 0 (bl n)) : w.cell? ⟨b, 0, none⟩ = some (.int .u8 ((n % 256 : Nat) : Int)) := by
  have h0 := h 0 _ (bl_get n 0 (by decide))
  rw [Nat.zero_add, Nat.pow_zero, Nat.div_one] at h0
  exact h0
theorem rt_lt' {u v : Nat} (h : rok u v) : rt u v < p := (rt_root h).1
theorem rt_even' {u v : Nat} (h : rok u v) : ¬ rt u v % 256 % 2 = 1 := by have := (rt_root h).2.1; omega
theorem rt_sq' {u v : Nat} (h : rok u v) : fmul v (fmul (rt u v) (rt u v)) = fred u := by
  have := (rt_root h).2.2.1
  show v * (rt u v * rt u v % p) % p = u % p
  rw [mcong rfl (mm _)]; exact this
theorem rt_sq1 (u : Nat) : fmul (rt (fmul u u) 1) (rt (fmul u u) 1) = fmul u u := by
  have := (rt_root (rok_sq u)).2.2.1
  rw [Nat.one_mul] at this
  exact this.trans (mm _)
end Go.Proofs.YtoimglbjepppmaaDoor
