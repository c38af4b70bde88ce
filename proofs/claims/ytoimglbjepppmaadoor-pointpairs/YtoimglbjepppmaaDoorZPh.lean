import Derived.Test.YtoimglbjepppmaaDoorZPg
namespace FieldNum
theorem p_one : p - 1 + 1 = p := by decide +kernel
/-- the field, as a ring -/
abbrev K : Type := Fin (p - 1 + 1)
def φ (a : Nat) : K := Fin.ofNat (p - 1 + 1) a
theorem φ_iff {a b : Nat} : φ a = φ b ↔ a % p = b % p := by
  unfold φ
  constructor
  · intro h
    have h2 := congrArg Fin.val h
    simp only [Fin.ofNat] at h2
    rwa [p_one] at h2
  · intro h
    refine Fin.ext ?_
    simp only [Fin.ofNat]
    rw [p_one]; exact h
theorem φ_mod (a : Nat) : φ (a % p) = φ a := φ_iff.2 (mm _)
theorem ofNat_mul (n a b : Nat) : Fin.ofNat (n + 1) (a * b) = Fin.ofNat (n + 1) a * Fin.ofNat (n + 1) b := by
  refine Fin.ext ?_
  show a * b % (n + 1) = (a % (n + 1)) * (b % (n + 1)) % (n + 1)
  rw [Nat.mul_mod]
theorem ofNat_add (n a b : Nat) : Fin.ofNat (n + 1) (a + b) = Fin.ofNat (n + 1) a + Fin.ofNat (n + 1) b := by
  refine Fin.ext ?_
  show (a + b) % (n + 1) = (a % (n + 1) + b % (n + 1)) % (n + 1)
  rw [Nat.add_mod]
theorem φ_mul (a b : Nat) : φ (a * b) = φ a * φ b := ofNat_mul _ a b
theorem φ_add (a b : Nat) : φ (a + b) = φ a + φ b := ofNat_add _ a b
theorem ring_sub {m : Nat} {a b c : Fin (m + 1)} (h : a + b = c) : a = c - b := by grind
theorem φ_sb (a b : Nat) : φ (sb a b) = φ a - φ b := ring_sub (by rw [← φ_add]; exact φ_iff.2 (sb_add a b))
theorem φ_m {a b c : Nat} (h : a % p = b * c % p) : φ a = φ b * φ c := (φ_iff.2 h).trans (φ_mul _ _)
theorem φ_a {a b c : Nat} (h : a % p = (b + c) % p) : φ a = φ b + φ c := (φ_iff.2 h).trans (φ_add _ _)
theorem φ_s {a b c : Nat} (h : a % p = sb b c) : φ a = φ b - φ c := (φ_iff.2 (h.trans (Nat.mod_eq_of_lt (sb_lt _ _)).symm)).trans (φ_sb _ _)
theorem φ_0 : φ 0 = 0 := rfl
theorem φ_1 : φ 1 = 1 := rfl
theorem φ_zero {a : Nat} : φ a = 0 ↔ a % p = 0 := by rw [← φ_0, φ_iff]; rfl
theorem ofNat_val {n : Nat} (k : Fin (n + 1)) : Fin.ofNat (n + 1) k.val = k := Fin.ext (Nat.mod_eq_of_lt k.isLt)
theorem φ_surj (k : K) : ∃ a, φ a = k := ⟨k.val, ofNat_val k⟩
theorem K_mul {a b : K} (ha : a ≠ 0) (hb : b ≠ 0) : a * b ≠ 0 := by
  obtain ⟨x, rfl⟩ := φ_surj a
  obtain ⟨y, rfl⟩ := φ_surj b
  rw [← φ_mul]
  intro h
  exact mul_ne (fun e => ha (φ_zero.2 e)) (fun e => hb (φ_zero.2 e)) (φ_zero.1 h)
theorem K_cancel {a b c : K} (ha : a ≠ 0) (h : a * b = a * c) : b = c := by
  apply Classical.byContradiction
  intro hn
  have h1 : b - c ≠ 0 := fun e => hn (by grind)
  exact K_mul ha h1 (by grind)
theorem K_inv {z : Nat} (h : φ z ≠ 0) : φ z * φ (inv z) = 1 := by
  rw [← φ_mul, ← φ_1]
  exact φ_iff.2 (mul_inv (fun e => h (φ_zero.2 e)))
/-- on the curve, over a divisor -/
def cur {m : Nat} (d x y z : Fin (m + 1)) : Prop := (y * y - x * x) * (z * z) = (z * z) * (z * z) + d * ((x * x) * (y * y))
def gX {m : Nat} (x y z : Fin (m + 1)) : Fin (m + 1) := ((x + y) * (x + y) - (x * x + y * y)) * ((z * z + z * z) - (y * y - x * x))
def gY {m : Nat} (x y : Fin (m + 1)) : Fin (m + 1) := (x * x + y * y) * (y * y - x * x)
def gZ {m : Nat} (x y z : Fin (m + 1)) : Fin (m + 1) := (y * y - x * x) * ((z * z + z * z) - (y * y - x * x))
theorem cur_key {m : Nat} {d a b c : Fin (m + 1)} (h : (b - a) * c = c * c + d * (a * b)) :
    ((a + b) * (b - a)) * ((a + b) * (b - a)) - (4 * (a * b)) * (((c + c) - (b - a)) * ((c + c) - (b - a))) = ((b - a) * (b - a)) * (((c + c) - (b - a)) * ((c + c) - (b - a))) + 4 * (d * (a * b)) * ((a + b) * (a + b)) := by grind
theorem cur_mul {m : Nat} {d X Y Z g n s D : Fin (m + 1)} (hX : X = g * n) (hY : Y = s * D) (hZ : Z = D * n) (k : s * D - g * n = D * n + d * g * s) : (Y - X) * Z = Z * Z + d * (X * Y) := by
  subst hX hY hZ
  have : (s * D - g * n) * (D * n) = (D * n + d * g * s) * (D * n) := by rw [k]
  grind
theorem cur_dbl {m : Nat} {d x y z : Fin (m + 1)} (h : cur d x y z) : cur d (gX x y z) (gY x y) (gZ x y z) := by
  unfold cur at h ⊢
  have k := cur_key (d := d) (a := x * x) (b := y * y) (c := z * z) h
  refine cur_mul (g := 4 * ((x * x) * (y * y))) (n := ((z * z + z * z) - (y * y - x * x)) * ((z * z + z * z) - (y * y - x * x))) (s := (x * x + y * y) * (x * x + y * y)) (D := (y * y - x * x) * (y * y - x * x)) ?_ ?_ ?_ ?_
  · unfold gX; grind
  · unfold gY; grind
  · unfold gZ; grind
  · grind
theorem ref_up {m : Nat} {d x y z : Fin (m + 1)} (h : cur d x y z) : (z * z) * (y * y - x * x) = (z * z) * (z * z) + d * ((x * x) * (y * y)) := by
  unfold cur at h; grind
theorem ref_down {m : Nat} {d x y z : Fin (m + 1)} (h : cur d x y z) : (z * z) * ((z * z + z * z) - (y * y - x * x)) = (z * z) * (z * z) - d * ((x * x) * (y * y)) := by
  unfold cur at h; grind
def rX {m : Nat} (d x y z u v c : Fin (m + 1)) : Fin (m + 1) := ((z * c) * (x * v + y * u)) * ((z * c) * (z * c) - d * ((x * u) * (y * v)))
def rY {m : Nat} (d x y z u v c : Fin (m + 1)) : Fin (m + 1) := ((z * c) * (y * v + x * u)) * ((z * c) * (z * c) + d * ((x * u) * (y * v)))
def rZ {m : Nat} (d x y z u v c : Fin (m + 1)) : Fin (m + 1) := ((z * c) * (z * c) + d * ((x * u) * (y * v))) * ((z * c) * (z * c) - d * ((x * u) * (y * v)))
theorem up_l {m : Nat} {d x y z l A B C u : Fin (m + 1)} (hA : A = l * x) (hB : B = l * y) (hC : C = l * z) (hu : u = (z * z) * (z * z) + d * ((x * x) * (y * y))) : (C * C) * (C * C) + d * ((A * A) * (B * B)) = (l * l * l * l) * u := by
  subst hA hB hC hu; grind
theorem down_l {m : Nat} {d x y z l A B C u : Fin (m + 1)} (hA : A = l * x) (hB : B = l * y) (hC : C = l * z) (hu : u = (z * z) * (z * z) - d * ((x * x) * (y * y))) : (C * C) * (C * C) - d * ((A * A) * (B * B)) = (l * l * l * l) * u := by
  subst hA hB hC hu; grind
theorem dbl_l {m : Nat} {d x y z l A B C : Fin (m + 1)} (hA : A = l * x) (hB : B = l * y) (hC : C = l * z) (h : cur d x y z) :
    rX d A B C A B C = ((l * l * l * l) * (l * l * l * l) * ((z * z) * (z * z))) * gX x y z ∧ rY d A B C A B C = ((l * l * l * l) * (l * l * l * l) * ((z * z) * (z * z))) * gY x y ∧ rZ d A B C A B C = ((l * l * l * l) * (l * l * l * l) * ((z * z) * (z * z))) * gZ x y z := by
  have h1 := up_l hA hB hC (ref_up h)
  have h2 := down_l hA hB hC (ref_down h)
  unfold rX rY rZ gX gY gZ
  rw [h1, h2]
  subst hA hB hC
  generalize y * y - x * x = D
  generalize e : (z * z + z * z) - D = O
  refine ⟨?_, ?_, ?_⟩ <;> grind
theorem K_up {s t : K} (ht : t ≠ 0) : t * t + φ dd * (s * s) ≠ 0 := by
  obtain ⟨x, rfl⟩ := φ_surj s
  obtain ⟨z, rfl⟩ := φ_surj t
  intro h
  have h1 := K_inv ht
  have h2 : φ (dd * ((x * inv z) * (x * inv z)) + 1) = 0 := by
    rw [φ_add, φ_mul, φ_mul, φ_mul, φ_1]
    generalize φ (inv z) = i at *
    have : (φ z * φ z + φ dd * (φ x * φ x)) * (i * i) = 0 := by rw [h]; grind
    grind
  exact under_ne (x * inv z) (φ_zero.1 h2)
theorem φ_Im : φ Im * φ Im = -1 := by
  have h : φ (Im * Im) + 1 = 0 := by rw [← φ_1, ← φ_add]; exact φ_zero.2 (by decide +kernel)
  rw [φ_mul] at h
  grind
theorem K_down {s t : K} (ht : t ≠ 0) : t * t - φ dd * (s * s) ≠ 0 := by
  intro h
  have h1 := φ_Im
  exact K_up (s := φ Im * s) ht (by grind)
theorem gZ_ne {x y z : K} (hz : z ≠ 0) (h : cur (φ dd) x y z) : gZ x y z ≠ 0 := by
  have hzz := K_mul hz hz
  have h1 := ref_up h
  have h2 := ref_down h
  have n1 := K_up (s := x * y) hzz
  have n2 := K_down (s := x * y) hzz
  unfold gZ
  refine K_mul (fun e => n1 ?_) (fun e => n2 ?_)
  · rw [e] at h1; grind
  · rw [e] at h2; grind
end FieldNum
