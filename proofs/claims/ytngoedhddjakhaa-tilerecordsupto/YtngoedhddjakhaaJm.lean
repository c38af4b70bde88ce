/-! plain lemmas on the bytes of data tiles; no model in it -/
namespace TileNum
/-- a record behind the two bytes of its length -/
def jo (r : List UInt8) : List UInt8 := UInt8.ofNat (r.length / 256) :: UInt8.ofNat r.length :: r
/-- the bytes of a data tile -/
def jn (rs : List (List UInt8)) : List UInt8 := rs.flatMap jo
/-- is a record too long? -/
def tl (r : List UInt8) : Bool := decide (1024 < r.length)
def lg (rs : List (List UInt8)) : Bool := decide (256 < rs.length) || rs.any tl
/-- the first record and what lies behind it -/
def fst (d : List UInt8) : Option (List UInt8 × List UInt8) :=
  match d with
  | a :: b :: t => if 1024 < a.toNat * 256 + b.toNat ∨ t.length < a.toNat * 256 + b.toNat then none else some (t.take (a.toNat * 256 + b.toNat), t.drop (a.toNat * 256 + b.toNat))
  | _ => none
/-- the records of bytes -/
def ct : Nat → List UInt8 → Option (List (List UInt8))
  | 0, d => if d = [] then some [] else none
  | w + 1, d => match fst d with
    | none => none
    | some (r, t) => (ct w t).map (r :: ·)
theorem jn_cons (r : List UInt8) (rs : List (List UInt8)) : jn (r :: rs) = jo r ++ jn rs := rfl
theorem jn_append (a b : List (List UInt8)) : jn (a ++ b) = jn a ++ jn b := by simp [jn]
theorem jo_length (r : List UInt8) : (jo r).length = r.length + 2 := rfl
theorem ofNat_toNat {n : Nat} : (UInt8.ofNat n).toNat = n % 256 := by simp
theorem fst_jo {r : List UInt8} (h : r.length ≤ 1024) (t : List UInt8) : fst (jo r ++ t) = some (r, t) := by
  unfold jo fst
  simp only [List.cons_append, ofNat_toNat]
  have e : r.length / 256 % 256 * 256 + r.length % 256 = r.length := by omega
  rw [e, if_neg (by simp; omega)]
  simp
theorem ct_jn : ∀ (rs : List (List UInt8)), (∀ r ∈ rs, r.length ≤ 1024) → ct rs.length (jn rs) = some rs
  | [], _ => rfl
  | r :: rs, h => by
    rw [jn_cons]
    simp only [List.length_cons, ct]
    rw [fst_jo (h r (by simp))]
    simp only
    rw [ct_jn rs (fun x hx => h x (by simp [hx]))]
    rfl
theorem ct_more : ∀ (rs : List (List UInt8)), (∀ r ∈ rs, r.length ≤ 1024) → ct (rs.length + 1) (jn rs) = none
  | [], _ => rfl
  | r :: rs, h => by
    rw [jn_cons]
    simp only [List.length_cons, ct]
    rw [fst_jo (h r (by simp))]
    have := ct_more rs (fun x hx => h x (by simp [hx]))
    simp only [ct] at this
    simp only
    rw [this]
    rfl
theorem u8_join {a b : UInt8} {n : Nat} (h : a.toNat * 256 + b.toNat = n) : UInt8.ofNat (n / 256) = a ∧ UInt8.ofNat n = b := by
  have h1 := a.toNat_lt
  have h2 := b.toNat_lt
  constructor
  · apply UInt8.toNat_inj.1; rw [ofNat_toNat]; omega
  · apply UInt8.toNat_inj.1; rw [ofNat_toNat]; omega
theorem fst_some {d r t : List UInt8} (h : fst d = some (r, t)) : d = jo r ++ t ∧ r.length ≤ 1024 := by
  unfold fst at h
  split at h
  · rename_i a b q
    split at h
    · cases h
    · rename_i hn
      simp only [not_or, Nat.not_lt] at hn
      simp only [Option.some.injEq, Prod.mk.injEq] at h
      obtain ⟨h1, h2⟩ := h
      have hl : r.length = a.toNat * 256 + b.toNat := by rw [← h1, List.length_take]; omega
      obtain ⟨e1, e2⟩ := u8_join hl.symm
      refine ⟨?_, by omega⟩
      unfold jo
      rw [e1, e2, ← h1, ← h2]
      simp
  · cases h
theorem ct_some : ∀ (w : Nat) {d : List UInt8} {rs : List (List UInt8)}, ct w d = some rs → jn rs = d ∧ rs.length = w ∧ ∀ r ∈ rs, r.length ≤ 1024
  | 0, d, rs, h => by
    unfold ct at h
    split at h
    · rename_i e
      cases h
      subst e
      exact ⟨rfl, rfl, by simp⟩
    · cases h
  | w + 1, d, rs, h => by
    unfold ct at h
    split at h
    · cases h
    · rename_i r t hf
      obtain ⟨q, hq, rfl⟩ := Option.map_eq_some_iff.1 h
      obtain ⟨e1, e2, e3⟩ := ct_some w hq
      obtain ⟨e4, e5⟩ := fst_some hf
      refine ⟨by rw [jn_cons, e1, e4], by simp [e2], ?_⟩
      intro x hx
      rcases List.mem_cons.1 hx with rfl | hx
      · exact e5
      · exact e3 x hx
theorem lg_iff {rs : List (List UInt8)} : lg rs = false ↔ rs.length ≤ 256 ∧ ∀ r ∈ rs, r.length ≤ 1024 := by
  simp [lg, tl]
theorem jn_le : ∀ (rs : List (List UInt8)), (∀ r ∈ rs, r.length ≤ 1024) → (jn rs).length ≤ rs.length * 1026
  | [], _ => by simp [jn]
  | r :: rs, h => by
    rw [jn_cons, List.length_append, jo_length, List.length_cons]
    have h1 := jn_le rs (fun x hx => h x (by simp [hx]))
    have h2 := h r (by simp)
    omega
end TileNum
