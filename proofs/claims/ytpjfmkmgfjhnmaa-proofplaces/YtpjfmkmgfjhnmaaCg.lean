import Derived.Test.YtpjfmkmgfjhnmaaCv0
namespace Go.Proofs.Ytpjfmkmgfjhnmaa
open Go.RowKit Tlg
/-- what covers is given -/
structure CG (w : World) (B : Nat) (v : Value) (L : List (List Nat)) : Prop where
  ll : LL w B v L
  len : L.length ≤ 100
  sm : ∀ l ∈ L, l.length ≤ 49 ∧ ∀ c ∈ l, c < 562949953421311
theorem CG.flat {w : World} {B : Nat} {v : Value} {L : List (List Nat)} (h : CG w B v L) : (ivs L.flatten).length ≤ 10000 := by
  have : ∀ M : List (List Nat), (∀ l ∈ M, l.length ≤ 49) → M.flatten.length ≤ 49 * M.length := by
    intro M
    induction M with
    | nil => intro _; simp
    | cons l r ih =>
      intro hM
      have h1 := hM l (by simp)
      have h2 := ih (fun x hx => hM x (by simp [hx]))
      rw [List.flatten_cons, List.length_append, List.length_cons]
      omega
  have h1 := this L (fun l hl => (h.sm l hl).1)
  have h2 := h.len
  unfold ivs
  rw [List.length_map]
  omega
end Go.Proofs.Ytpjfmkmgfjhnmaa
