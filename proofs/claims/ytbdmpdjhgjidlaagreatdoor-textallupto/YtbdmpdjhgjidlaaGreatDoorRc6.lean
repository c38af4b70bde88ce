import Derived.Test.YtbdmpdjhgjidlaaGreatDoorRb6
namespace TextNum
def bv6 (d : List Nat) : Nat := d.foldl (fun a b => 2 * a + b) 0
def grp : List Nat → List UInt8
  | a :: b :: c :: d :: e :: f :: r => lt (bv6 [a, b, c, d, e, f]) :: grp r
  | _ => []
theorem bv6_snoc (d : List Nat) (b : Nat) : bv6 (d ++ [b]) = 2 * bv6 d + b := by simp [bv6]
theorem bv6_lt : ∀ (n : Nat) (d : List Nat), d.length = n → (∀ b ∈ d, b < 2) → bv6 d < 2 ^ n := by
  intro n
  induction n with
  | zero => intro d h _; rw [List.eq_nil_of_length_eq_zero h]; decide
  | succ n ih =>
    intro d h hd
    rcases List.eq_nil_or_concat d with e | ⟨t, b, e⟩
    · subst e; simp at h
    · rw [List.concat_eq_append] at e
      subst e
      have h1 := ih t (by simpa using h) (fun x hx => hd x (by simp [hx]))
      have h2 := hd b (by simp)
      rw [bv6_snoc, Nat.pow_succ]
      omega
theorem grp_append : ∀ (a b : List Nat), a.length % 6 = 0 → grp (a ++ b) = grp a ++ grp b
  | [], b, _ => rfl
  | [_], b, h => by simp at h
  | [_, _], b, h => by simp at h
  | [_, _, _], b, h => by simp at h
  | [_, _, _, _], b, h => by simp at h
  | [_, _, _, _, _], b, h => by simp at h
  | x1 :: x2 :: x3 :: x4 :: x5 :: x6 :: r, b, h => by
    have := grp_append r b (by simp at h; omega)
    simp only [List.cons_append, grp, this]
theorem grp_length : ∀ (a : List Nat), (grp a).length = a.length / 6
  | [] => by simp [grp]
  | [_] => by simp [grp]
  | [_, _] => by simp [grp]
  | [_, _, _] => by simp [grp]
  | [_, _, _, _] => by simp [grp]
  | [_, _, _, _, _] => by simp [grp]
  | x1 :: x2 :: x3 :: x4 :: x5 :: x6 :: r => by simp only [grp, List.length_cons, grp_length r]; omega
theorem grp_six (d : List Nat) (h : d.length = 6) : grp d = [lt (bv6 d)] := by
  match d, h with
  | [a, b, c, e, f, g], _ => rfl
theorem b8_8 (x : UInt8) : b8 x 8 = [x.toNat / 128 % 2, x.toNat / 64 % 2, x.toNat / 32 % 2, x.toNat / 16 % 2, x.toNat / 8 % 2, x.toNat / 4 % 2, x.toNat / 2 % 2, x.toNat / 1 % 2] := rfl
theorem v1 {x : Nat} (hx : x < 256) : bv6 [x / 128 % 2, x / 64 % 2, x / 32 % 2, x / 16 % 2, x / 8 % 2, x / 4 % 2] = x / 4 := by
  simp only [bv6, List.foldl_cons, List.foldl_nil]; omega
theorem v2 {x y : Nat} (hy : y < 256) : bv6 [x / 2 % 2, x / 1 % 2, y / 128 % 2, y / 64 % 2, y / 32 % 2, y / 16 % 2] = x % 4 * 16 + y / 16 := by
  simp only [bv6, List.foldl_cons, List.foldl_nil]; omega
theorem v2z {x : Nat} : bv6 [x / 2 % 2, x / 1 % 2, 0, 0, 0, 0] = x % 4 * 16 := by
  simp only [bv6, List.foldl_cons, List.foldl_nil]; omega
theorem v3 {y z : Nat} (hz : z < 256) : bv6 [y / 8 % 2, y / 4 % 2, y / 2 % 2, y / 1 % 2, z / 128 % 2, z / 64 % 2] = y % 16 * 4 + z / 64 := by
  simp only [bv6, List.foldl_cons, List.foldl_nil]; omega
theorem v3z {y : Nat} : bv6 [y / 8 % 2, y / 4 % 2, y / 2 % 2, y / 1 % 2, 0, 0] = y % 16 * 4 := by
  simp only [bv6, List.foldl_cons, List.foldl_nil]; omega
theorem v4 {z : Nat} : bv6 [z / 32 % 2, z / 16 % 2, z / 8 % 2, z / 4 % 2, z / 2 % 2, z / 1 % 2] = z % 64 := by
  simp only [bv6, List.foldl_cons, List.foldl_nil]; omega
theorem enc_eq : ∀ (l : List UInt8) (k q : Nat), ((l.length % 3 = 0 ∧ k = 0 ∧ q = 0) ∨ (l.length % 3 = 1 ∧ k = 4 ∧ q = 2) ∨ (l.length % 3 = 2 ∧ k = 2 ∧ q = 1)) → grp (bt l ++ List.replicate k 0) ++ List.replicate q 61 = b64E l
  | [], k, q, h => by
    obtain ⟨rfl, rfl⟩ : k = 0 ∧ q = 0 := by simp at h; exact h
    rfl
  | [x], k, q, h => by
    obtain ⟨rfl, rfl⟩ : k = 4 ∧ q = 2 := by simp at h; exact h
    have hx := x.toNat_lt
    show grp (b8 x 8 ++ [] ++ [0, 0, 0, 0]) ++ [61, 61] = g1 x
    rw [b8_8]
    simp only [List.cons_append, List.nil_append, grp]
    rw [v1 hx, v2z]
    rfl
  | [x, y], k, q, h => by
    obtain ⟨rfl, rfl⟩ : k = 2 ∧ q = 1 := by simp at h; exact h
    have hx := x.toNat_lt
    have hy := y.toNat_lt
    show grp (b8 x 8 ++ (b8 y 8 ++ []) ++ [0, 0]) ++ [61] = g2 x y
    rw [b8_8, b8_8]
    simp only [List.cons_append, List.nil_append, grp]
    rw [v1 hx, v2 hy, v3z]
    rfl
  | x :: y :: z :: r, k, q, h => by
    have ih := enc_eq r k q (by simp only [List.length_cons] at h; omega)
    have hx := x.toNat_lt
    have hy := y.toNat_lt
    have hz := z.toNat_lt
    show grp (b8 x 8 ++ (b8 y 8 ++ (b8 z 8 ++ bt r)) ++ List.replicate k 0) ++ List.replicate q 61 = g3 x y z ++ b64E r
    rw [b8_8, b8_8, b8_8]
    simp only [List.cons_append, List.nil_append, grp] at ih ⊢
    rw [ih]
    rw [v1 hx, v2 hy, v3 hz, v4]
    rfl
end TextNum
