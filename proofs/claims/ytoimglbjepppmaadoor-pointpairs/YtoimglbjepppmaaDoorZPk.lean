import Derived.Test.YtoimglbjepppmaaDoorZPh
namespace Go.Proofs.YtoimglbjepppmaaDoor
open Go.RowKit Go.Shelf FieldNum

theorem φ_fmul (a b : Nat) : φ (fmul a b) = φ a * φ b := by unfold fmul; rw [φ_mod, φ_mul]
theorem φ_fadd (a b : Nat) : φ (fadd a b) = φ a + φ b := by unfold fadd; rw [φ_mod, φ_add]
theorem cur_on {x y : Nat} (h : onc x y) : cur (φ dd) (φ x) (φ y) (φ 1) := by
  have h1 := congrArg φ h
  simp only [φ_mod, φ_add, φ_mul, φ_sb] at h1
  rw [φ_1] at h1 ⊢
  unfold cur
  grind
theorem φ_dbX (x y z : Nat) : φ (dbX x y z) = gX (φ x) (φ y) (φ z) := by unfold dbX gX; simp only [φ_fmul, φ_fadd, φ_sb]
theorem φ_dbY (x y : Nat) : φ (dbY x y) = gY (φ x) (φ y) := by unfold dbY gY; simp only [φ_fmul, φ_fadd, φ_sb]
theorem φ_dbZ (x y z : Nat) : φ (dbZ x y z) = gZ (φ x) (φ y) (φ z) := by unfold dbZ gZ; simp only [φ_fmul, φ_fadd, φ_sb]
theorem dbX_p (x y z : Nat) : dbX x y z < p := Nat.mod_lt _ p_pos
theorem dbY_p (x y : Nat) : dbY x y < p := Nat.mod_lt _ p_pos
theorem dbZ_p (x y z : Nat) : dbZ x y z < p := Nat.mod_lt _ p_pos
/-- the sum, over a divisor -/
def sX (x y u v : Nat) : Nat := plX x y 1 (fmul x y) u v 1 (fmul u v)
def sY (x y u v : Nat) : Nat := plY x y 1 (fmul x y) u v 1 (fmul u v)
def sZ (x y u v : Nat) : Nat := plZ x y 1 (fmul x y) u v 1 (fmul u v)
theorem φ_sX (x y u v : Nat) : φ (sX x y u v) = rX (φ dd) (φ x) (φ y) (φ 1) (φ u) (φ v) (φ 1) := by
  unfold sX plX rX; simp only [φ_fmul, φ_fadd, φ_sb]; rw [φ_1]; grind
theorem φ_sY (x y u v : Nat) : φ (sY x y u v) = rY (φ dd) (φ x) (φ y) (φ 1) (φ u) (φ v) (φ 1) := by
  unfold sY plY rY; simp only [φ_fmul, φ_fadd]; rw [φ_1]; grind
theorem φ_sZ (x y u v : Nat) : φ (sZ x y u v) = rZ (φ dd) (φ x) (φ y) (φ 1) (φ u) (φ v) (φ 1) := by
  unfold sZ plZ rZ; simp only [φ_fmul, φ_fadd, φ_sb]; rw [φ_1]; grind
def aX (x y u v : Nat) : Nat := fmul (sX x y u v) (inv (sZ x y u v))
def aY (x y u v : Nat) : Nat := fmul (sY x y u v) (inv (sZ x y u v))
theorem frac {a b A B : Nat} (h1 : φ a = φ A) (h2 : φ b = φ B) : fmul a (inv b) = A * inv B % p := by
  unfold fmul
  refine mcong (φ_iff.1 h1) ?_
  rw [← inv_mod b, φ_iff.1 h2, inv_mod]
theorem sX_comm (x y u v : Nat) : φ (sX u v x y) = φ (sX x y u v) := by rw [φ_sX, φ_sX]; unfold rX; grind
theorem sY_comm (x y u v : Nat) : φ (sY u v x y) = φ (sY x y u v) := by rw [φ_sY, φ_sY]; unfold rY; grind
theorem sZ_comm (x y u v : Nat) : φ (sZ u v x y) = φ (sZ x y u v) := by rw [φ_sZ, φ_sZ]; unfold rZ; grind
theorem aX_comm (x y u v : Nat) : aX u v x y = aX x y u v := frac (sX_comm x y u v) (sZ_comm x y u v)
theorem aY_comm (x y u v : Nat) : aY u v x y = aY x y u v := frac (sY_comm x y u v) (sZ_comm x y u v)
theorem dbl_one {x y : Nat} (h : onc x y) : φ (dbX x y 1) = φ (sX x y x y) ∧ φ (dbY x y) = φ (sY x y x y) ∧ φ (dbZ x y 1) = φ (sZ x y x y) := by
  have h0 := cur_on h
  have := dbl_l (l := 1) (A := φ x) (B := φ y) (C := φ 1) (by grind) (by grind) (by grind) h0
  rw [φ_sX, φ_sY, φ_sZ, this.1, this.2.1, this.2.2, φ_dbX, φ_dbY, φ_dbZ, φ_1]
  refine ⟨?_, ?_, ?_⟩ <;> grind
theorem dbl_aX {x y : Nat} (h : onc x y) : fmul (dbX x y 1) (inv (dbZ x y 1)) = aX x y x y := frac (dbl_one h).1 (dbl_one h).2.2
theorem dbl_aY {x y : Nat} (h : onc x y) : fmul (dbY x y) (inv (dbZ x y 1)) = aY x y x y := frac (dbl_one h).2.1 (dbl_one h).2.2
/-- the program's place and the reference's: one point, with other divisors -/
def Tri (x y z A B C : Nat) : Prop := φ z ≠ 0 ∧ cur (φ dd) (φ x) (φ y) (φ z) ∧ ∃ l : K, l ≠ 0 ∧ φ A = l * φ x ∧ φ B = l * φ y ∧ φ C = l * φ z
theorem K_one : (1 : K) ≠ 0 := by
  rw [← φ_1]
  intro h
  exact absurd (φ_zero.1 h) (by decide +kernel)
theorem Tri_start {x y : Nat} (h : onc x y) : Tri x y 1 x y 1 := ⟨K_one, cur_on h, 1, K_one, by grind, by grind, by grind⟩
theorem Tri_step {x y z A B C A' B' C' : Nat} (h : Tri x y z A B C) (hA : φ A' = rX (φ dd) (φ A) (φ B) (φ C) (φ A) (φ B) (φ C)) (hB : φ B' = rY (φ dd) (φ A) (φ B) (φ C) (φ A) (φ B) (φ C)) (hC : φ C' = rZ (φ dd) (φ A) (φ B) (φ C) (φ A) (φ B) (φ C)) :
    Tri (dbX x y z) (dbY x y) (dbZ x y z) A' B' C' := by
  obtain ⟨hz, hc, l, hl, h1, h2, h3⟩ := h
  have hd := dbl_l h1 h2 h3 hc
  have hll := K_mul (K_mul (K_mul hl hl) hl) hl
  have hzz := K_mul hz hz
  refine ⟨?_, ?_, _, K_mul (K_mul hll hll) (K_mul hzz hzz), ?_, ?_, ?_⟩
  · rw [φ_dbZ]; exact gZ_ne hz hc
  · rw [φ_dbX, φ_dbY, φ_dbZ]; exact cur_dbl hc
  · rw [hA, hd.1, φ_dbX]
  · rw [hB, hd.2.1, φ_dbY]
  · rw [hC, hd.2.2, φ_dbZ]
theorem Tri_end {x y z A B C : Nat} (h : Tri x y z A B C) (hx : x < p) (hy : y < p) (hz' : z < p) : decide (A * inv C % p = 0 ∧ B * inv C % p = 1) = decide (x = 0 ∧ y = z) := by
  obtain ⟨hz, hc, l, hl, h1, h2, h3⟩ := h
  have hC : φ C ≠ 0 := by rw [h3]; exact K_mul hl hz
  have hi := K_inv hC
  have e1 : A * inv C % p = 0 ↔ x = 0 := by
    rw [← φ_zero, φ_mul, ← Nat.mod_eq_of_lt hx, ← φ_zero]
    constructor
    · intro e
      have : l * φ x = l * 0 := by grind
      exact K_cancel hl this
    · intro e; rw [h1, e]; grind
  have e2 : B * inv C % p = 1 ↔ y = z := by
    have a1 : B * inv C % p = 1 ↔ φ B * φ (inv C) = 1 := by
      rw [← φ_mul, ← φ_1, φ_iff]; exact Iff.rfl
    have a2 : y = z ↔ φ y = φ z := by rw [φ_iff, Nat.mod_eq_of_lt hy, Nat.mod_eq_of_lt hz']
    rw [a1, a2]
    constructor
    · intro e
      have : l * φ y = l * φ z := by grind
      exact K_cancel hl this
    · intro e; rw [h2, e, ← h3]; exact hi
  exact decide_eq_decide.2 (and_congr e1 e2)
end Go.Proofs.YtoimglbjepppmaaDoor
