import Derived.Test.YtdgpnppnjkpfoaaDoorXn
namespace Go.Proofs.YtdgpnppnjkpfoaaDoor
open Go.RowKit TextNum
/-- a path out of its escaped form -/
def une : List UInt8 → Option (List UInt8)
  | [] => some []
  | c :: r => if c = 37 then
      match r with
      | a :: b :: q => if trk a b = true then (une q).map (trb a b :: ·) else none
      | _ => none
    else if pl c = true then (une r).map (c :: ·) else none
theorem une_pl {c : UInt8} {r : List UInt8} (h : c ≠ 37) (hp : pl c = true) : une (c :: r) = (une r).map (c :: ·) := by
  match r with
  | [] => simp [une, h, hp]
  | [a] => rw [une, if_neg h, if_pos hp]; intro _ _ _ e; cases e
  | a :: b :: q => rw [une, if_neg h, if_pos hp]
theorem une_no {c : UInt8} {r : List UInt8} (h : c ≠ 37) (hp : pl c = false) : une (c :: r) = none := by
  match r with
  | [] => rw [une, if_neg h, if_neg (by rw [hp]; simp)]; intro _ _ _ e; cases e
  | [a] => rw [une, if_neg h, if_neg (by rw [hp]; simp)]; intro _ _ _ e; cases e
  | a :: b :: q => rw [une, if_neg h, if_neg (by rw [hp]; simp)]
theorem une_tri {a b : UInt8} {q : List UInt8} (h : trk a b = true) : une (37 :: a :: b :: q) = (une q).map (trb a b :: ·) := by
  rw [une, if_pos rfl]
  simp only [h, if_true]
theorem une_tri_no {a b : UInt8} {q : List UInt8} (h : trk a b = false) : une (37 :: a :: b :: q) = none := by
  rw [une, if_pos rfl]
  simp only [h]
  rfl
theorem une_end {r : List UInt8} (h : r.length < 2) : une (37 :: r) = none := by
  match r, h with
  | [], _ => rw [une, if_pos rfl]; intro _ _ _ e; cases e
  | [a], _ => rw [une, if_pos rfl]; intro _ _ _ e; cases e
/-- an escaped byte -/
def hxd (n : Nat) : UInt8 := [48, 49, 50, 51, 52, 53, 54, 55, 56, 57, 65, 66, 67, 68, 69, 70].getD n 0
def ec (c : UInt8) : List UInt8 := if pl c = true then [c] else [37, hxd (c.toNat / 16), hxd (c.toNat % 16)]
def esc (l : List UInt8) : List UInt8 := l.flatMap ec
theorem esc_take {l : List UInt8} {i : Nat} (h : i < l.length) : esc (l.take (i + 1)) = esc (l.take i) ++ ec l[i] := by
  unfold esc
  rw [List.take_succ_eq_append_getElem h, List.flatMap_append]
  simp
theorem esc_len (l : List UInt8) : (esc l).length ≤ 3 * l.length := by
  induction l with
  | nil => exact Nat.zero_le _
  | cons c r ih =>
    unfold esc at *
    rw [List.flatMap_cons, List.length_append, List.length_cons]
    have : (ec c).length ≤ 3 := by unfold ec; split <;> simp
    omega
theorem tri_ok : ∀ n : Nat, n < 256 → ctl (UInt8.ofNat n) = false → UInt8.ofNat n ≠ 47 → trb (hxd (n / 16)) (hxd (n % 16)) = UInt8.ofNat n ∧ trk (hxd (n / 16)) (hxd (n % 16)) = true := by decide +kernel
theorem pl_no : ∀ n : Nat, n < 256 → pl (UInt8.ofNat n) = true → ctl (UInt8.ofNat n) = false ∧ UInt8.ofNat n ≠ 37 ∧ 33 ≤ n ∧ n ≤ 126 ∧ n ≠ 63 ∧ n ≠ 35 := by decide +kernel
theorem of_toNat (c : UInt8) : UInt8.ofNat c.toNat = c := by simp
theorem pl_47 : pl 47 = true := by decide +kernel
theorem hxd_ok : ∀ n : Nat, n < 16 → 33 ≤ (hxd n).toNat ∧ (hxd n).toNat ≤ 126 ∧ (hxd n).toNat ≠ 63 ∧ (hxd n).toNat ≠ 35 := by decide +kernel
theorem une_esc : ∀ {l : List UInt8}, (l.all fun c => !ctl c) = true → une (esc l) = some l
  | [], _ => rfl
  | c :: r, h => by
    rw [List.all_cons, Bool.and_eq_true] at h
    have ih := une_esc h.2
    have hc : ctl c = false := by simpa using h.1
    have hlt := c.toNat_lt
    show une (ec c ++ esc r) = _
    unfold ec
    by_cases hp : pl c = true
    · rw [if_pos hp]
      have h1 := pl_no c.toNat (by omega) (by rw [of_toNat]; exact hp)
      rw [of_toNat] at h1
      show une (c :: esc r) = _
      rw [une_pl h1.2.1 hp, ih]
      rfl
    · rw [if_neg hp]
      have h47 : c ≠ 47 := fun e => hp (by rw [e]; exact pl_47)
      have h1 := tri_ok c.toNat (by omega) (by rw [of_toNat]; exact hc) (by rw [of_toNat]; exact h47)
      rw [of_toNat] at h1
      show une (37 :: hxd _ :: hxd _ :: esc r) = _
      rw [une_tri h1.2, ih, h1.1]
      rfl
theorem esc_vis {l : List UInt8} : ∀ c ∈ esc l, 33 ≤ c.toNat ∧ c.toNat ≤ 126 ∧ c.toNat ≠ 63 ∧ c.toNat ≠ 35 := fun c hc => by
  unfold esc at hc
  obtain ⟨b, _, hb⟩ := List.mem_flatMap.1 hc
  have hlt := b.toNat_lt
  unfold ec at hb
  by_cases hp : pl b = true
  · rw [if_pos hp] at hb
    obtain rfl := List.mem_singleton.1 hb
    have h1 := pl_no c.toNat (by omega) (by rw [of_toNat]; exact hp)
    omega
  · rw [if_neg hp] at hb
    simp only [List.mem_cons, List.not_mem_nil, or_false] at hb
    rcases hb with rfl | rfl | rfl
    · decide
    · exact hxd_ok _ (by omega)
    · exact hxd_ok _ (by omega)
/-- what comes out of an escaped form can be escaped -/
theorem une_ctl : ∀ (n : Nat) (l p : List UInt8), l.length ≤ n → une l = some p → (p.all fun c => !ctl c) = true ∧ p.length ≤ l.length ∧ (l.head? = some 47 → p.head? = some 47)
  | _, [], p, _, h => by
    rw [une] at h
    injection h with h
    subst h
    exact ⟨rfl, Nat.le_refl _, (fun h => by cases h)⟩
  | 0, c :: r, p, hn, _ => by simp at hn
  | n + 1, c :: r, p, hn, h => by
    have hlt := c.toNat_lt
    by_cases h37 : c = 37
    · subst h37
      match r with
      | [] => rw [une_end (by simp)] at h; cases h
      | [a] => rw [une_end (by simp)] at h; cases h
      | a :: b :: q =>
        cases ht : trk a b with
        | false => rw [une_tri_no ht] at h; cases h
        | true =>
          rw [une_tri ht, Option.map_eq_some_iff] at h
          obtain ⟨p', h1, rfl⟩ := h
          obtain ⟨i1, i2, _⟩ := une_ctl n q p' (by simp at hn; omega) h1
          have hc : ctl (trb a b) = false := by
            unfold trk at ht
            simp only [Bool.and_eq_true, Bool.not_eq_true'] at ht
            exact ht.1.2
          refine ⟨by rw [List.all_cons, i1, hc]; rfl, by simp; omega, fun h => by simp at h⟩
    · cases hp : pl c with
      | false => rw [une_no h37 hp] at h; cases h
      | true =>
        rw [une_pl h37 hp, Option.map_eq_some_iff] at h
        obtain ⟨p', h1, rfl⟩ := h
        obtain ⟨i1, i2, _⟩ := une_ctl n r p' (by simp at hn; omega) h1
        have hc := (pl_no c.toNat (by omega) (by rw [of_toNat]; exact hp)).1
        rw [of_toNat] at hc
        exact ⟨by rw [List.all_cons, i1, hc]; rfl, by simp; omega, fun h => by simpa using h⟩
end Go.Proofs.YtdgpnppnjkpfoaaDoor
