import Derived.Test.YteijccjdejjbjaaDoorVa
namespace Go.Proofs.YteijccjdejjbjaaDoor
open Go.RowKit Go.Shelf ScalarNum

theorem horner2 {L v m : Nat} {N N' d : Int} (hm : (m : Int) = d % (L : Int)) (hv : (v : Int) = N' % (L : Int)) (hN : N = d + 2 * N') : (((2 * v + m) % L : Nat) : Int) = N % (L : Int) := by
  rw [Int.natCast_emod, Int.natCast_add, Int.natCast_mul, hm, hv, hN, Int.add_emod (_ * _), Int.emod_emod, Int.mul_emod, Int.emod_emod, ← Int.mul_emod, ← Int.add_emod, Int.add_comm]
  rfl
/-- the sum of n digits from place s on, times their powers of two -/
def hs (f : Nat → I8) (s : Nat) : Nat → Int
  | 0 => 0
  | n + 1 => (f s).1 + 2 * hs f (s + 1) n

theorem vf_hs (f : Nat → I8) (len : Nat) : ∀ j, j ≤ len → ((vf (down len f j) : Nat) : Int) = hs f (len - j) j % (L : Int)
  | 0, _ => (Int.zero_emod _).symm
  | j + 1, h => by
    have ih := vf_hs f len j (by omega)
    rw [down_succ, vf_snoc]
    have hi : len - 1 - j = len - (j + 1) := by omega
    have h1 : len - (j + 1) + 1 = len - j := by omega
    rw [hi]
    refine horner2 (md_cast _) ih ?_
    show (f (len - (j + 1))).1 + 2 * hs f (len - (j + 1) + 1) j = _
    rw [h1]
theorem vf_sum (f : Nat → I8) (len : Nat) : ((vf (down len f len) : Nat) : Int) = hs f 0 len % (L : Int) := by
  have := vf_hs f len len (Nat.le_refl _)
  rwa [Nat.sub_self] at this
theorem hs_add (f : Nat → I8) (n : Nat) : ∀ (m s : Nat), hs f s (m + n) = hs f s m + 2 ^ m * hs f (s + m) n
  | 0, s => by simp [hs]
  | m + 1, s => by
    rw [show m + 1 + n = (m + n) + 1 from by omega]
    show (f s).1 + 2 * hs f (s + 1) (m + n) = (f s).1 + 2 * hs f (s + 1) m + 2 ^ (m + 1) * hs f (s + (m + 1)) n
    rw [hs_add f n m (s + 1), show s + 1 + m = s + (m + 1) from by omega, Int.pow_succ, Int.mul_add, ← Int.mul_assoc, Int.mul_comm 2 (2 ^ m)]
    omega
theorem hs_same {f g : Nat → I8} : ∀ (n s t : Nat), (∀ i, i < n → f (s + i) = g (t + i)) → hs f s n = hs g t n
  | 0, _, _, _ => rfl
  | n + 1, s, t, h => by
    have h0 := h 0 (by omega)
    have ih := hs_same (f := f) (g := g) n (s + 1) (t + 1) (fun i hi => by rw [Nat.add_assoc, Nat.add_assoc, Nat.add_comm 1 i]; exact h (i + 1) (by omega))
    show (f s).1 + 2 * hs f (s + 1) n = (g t).1 + 2 * hs g (t + 1) n
    rw [ih, show f s = g t from h0]
/-- two lists, one behind the other -/
theorem vf_join (f g F : Nat → I8) (m n : Nat) (h1 : ∀ i, i < m → F i = f i) (h2 : ∀ i, i < n → F (m + i) = g i) :
    vf (down (m + n) F (m + n)) = (2 ^ m % L * vf (down n g n) + vf (down m f m)) % L := by
  have hF := vf_sum F (m + n)
  rw [hs_add F n m 0, Nat.zero_add, hs_same (f := F) (g := f) m 0 0 (fun i hi => by rw [Nat.zero_add]; exact h1 i hi), hs_same (f := F) (g := g) n m 0 (fun i hi => by rw [Nat.zero_add]; exact h2 i hi)] at hF
  have e : ((vf (down (m + n) F (m + n)) : Nat) : Int) = (((2 ^ m % L * vf (down n g n) + vf (down m f m)) % L : Nat) : Int) := by
    rw [hF, Int.natCast_emod, Int.natCast_add, Int.natCast_mul, Int.natCast_emod, vf_sum f m, vf_sum g n, Int.natCast_pow, Int.add_emod (_ * _) (hs f 0 m % _), Int.emod_emod, ← Int.mul_emod, ← Int.add_emod, Int.add_comm]
    rfl
  exact Int.ofNat.inj e
end Go.Proofs.YteijccjdejjbjaaDoor
