import Derived.Test.YtaobnnlcfefodaaGreatDoorFa
import Derived.Test.YtaobnnlcfefodaaGreatDoorPn
namespace Go.Proofs.YtaobnnlcfefodaaGreatDoor
open Go.RowKit TextNum Go.Lib
/-! ### asks, in plain lists -/
theorem first10 {a b x y : List UInt8} (ha : (10 : UInt8) ∉ a) (hb : (10 : UInt8) ∉ b) (h : a ++ 10 :: x = b ++ 10 :: y) : a = b ∧ x = y := by
  induction a generalizing b with
  | nil =>
    cases b with
    | nil => simpa using h
    | cons c b => simp only [List.nil_append, List.cons_append, List.cons.injEq] at h; exact absurd (h.1 ▸ List.mem_cons_self) hb
  | cons c a ih =>
    cases b with
    | nil => simp only [List.nil_append, List.cons_append, List.cons.injEq] at h; exact absurd (h.1 ▸ List.mem_cons_self) ha
    | cons d b =>
      simp only [List.cons_append, List.cons.injEq] at h
      obtain ⟨rfl, h⟩ := h
      obtain ⟨rfl, rfl⟩ := ih (fun e => ha (List.mem_cons_of_mem _ e)) (fun e => hb (List.mem_cons_of_mem _ e)) h
      exact ⟨rfl, rfl⟩
/-- the line of a hash -/
def hln (h : List UInt8) : List UInt8 := b64E h ++ [10]
/-- an ask -/
def OLD : List UInt8 := [111, 108, 100, 32]
def fmA (o : Int) (hs : List (List UInt8)) (m : List UInt8) : List UInt8 := OLD ++ itoa o ++ 10 :: (hs.flatMap hln ++ 10 :: m)
/-- is it a note? -/
def isNt (m : List UInt8) : Prop := m.length ≤ 65536 ∧ ∃ t ss, Spl m t ss
theorem nt_iff {m : List UInt8} : isNt m ↔ m.length ≤ 65536 ∧ ∃ t ss, Spl m t ss := Iff.rfl
structure VA (o : Int) (hs : List (List UInt8)) (m : List UInt8) : Prop where
  o0 : 0 ≤ o
  o1 : o ≤ 281474976710656
  n : hs.length ≤ 64
  l : ∀ h ∈ hs, h.length = 32
  m : isNt m
theorem b64E_inj {a b : List UInt8} (h : b64E a = b64E b) : a = b := by
  have := b64_back a
  rw [h, b64_back b] at this
  exact (Option.some.inj this).symm
theorem b64E_ne {h : List UInt8} (e : h.length = 32) : b64E h ≠ [] := fun h0 => by
  have := b64E_length h
  rw [h0, e] at this
  simp at this
/-- one way alone to read the lines of hashes -/
theorem hln_step : ∀ (hs hs' : List (List UInt8)) (s r : List UInt8), (∀ h ∈ hs, h.length = 32) → (∀ h ∈ hs', h.length = 32) → hs.flatMap hln ++ s = hs'.flatMap hln ++ 10 :: r → ∃ ks, hs' = hs ++ ks ∧ s = ks.flatMap hln ++ 10 :: r
  | [], hs', s, r, _, _, e => ⟨hs', rfl, by simpa using e⟩
  | h :: hs, [], s, r, l, _, e => by
    exfalso
    have e2 : b64E h ++ 10 :: (hs.flatMap hln ++ s) = [] ++ 10 :: r := by simpa [hln] using e
    exact b64E_ne (l h List.mem_cons_self) (first10 (g_no10' h) (by simp) e2).1
  | h :: hs, h' :: hs', s, r, l, l', e => by
    have e2 : b64E h ++ 10 :: (hs.flatMap hln ++ s) = b64E h' ++ 10 :: (hs'.flatMap hln ++ 10 :: r) := by simpa [hln] using e
    obtain ⟨e3, e4⟩ := first10 (g_no10' h) (g_no10' h') e2
    obtain rfl := b64E_inj e3
    obtain ⟨ks, e5, e6⟩ := hln_step hs hs' s r (fun x hx => l x (List.mem_cons_of_mem _ hx)) (fun x hx => l' x (List.mem_cons_of_mem _ hx)) e4
    exact ⟨ks, by rw [e5]; rfl, e6⟩
theorem hln_inj {hs hs' : List (List UInt8)} {m m' : List UInt8} (l : ∀ h ∈ hs, h.length = 32) (l' : ∀ h ∈ hs', h.length = 32) (e : hs.flatMap hln ++ 10 :: m = hs'.flatMap hln ++ 10 :: m') : hs = hs' ∧ m = m' := by
  obtain ⟨ks, e1, e2⟩ := hln_step hs hs' _ m' l l' e
  cases ks with
  | nil => exact ⟨by rw [e1, List.append_nil], by simpa using e2⟩
  | cons k ks =>
    exfalso
    have e3 : [] ++ 10 :: m = b64E k ++ 10 :: (ks.flatMap hln ++ 10 :: m') := by simpa [hln] using e2
    have hk : k.length = 32 := l' k (by rw [e1]; simp)
    exact b64E_ne hk (first10 (by simp) (g_no10' k) e3).1.symm
theorem dec_no10 (n : Nat) : (10 : UInt8) ∉ decDigits n := fun h => by
  have := List.all_eq_true.1 (dec_all n) _ h
  simp [isD] at this
theorem itoa_no10 {o : Int} (h : 0 ≤ o) : (10 : UInt8) ∉ itoa o := by
  obtain ⟨n, rfl⟩ : ∃ n : Nat, o = (n : Int) := ⟨o.toNat, by omega⟩
  rw [itoa_nat]
  exact dec_no10 n
theorem itoa_inj {a b : Int} (ha : 0 ≤ a) (hb : 0 ≤ b) (h : itoa a = itoa b) : a = b := by
  obtain ⟨n, rfl⟩ : ∃ n : Nat, a = (n : Int) := ⟨a.toNat, by omega⟩
  obtain ⟨m, rfl⟩ : ∃ n : Nat, b = (n : Int) := ⟨b.toNat, by omega⟩
  rw [itoa_nat, itoa_nat] at h
  have := congrArg nv h
  rw [nv_dec, nv_dec] at this
  omega
theorem old_no10 {o : Int} (h : 0 ≤ o) : (10 : UInt8) ∉ OLD ++ itoa o := by
  simp only [List.mem_append, not_or]
  exact ⟨by decide, itoa_no10 h⟩
/-- an ask has its parts alone -/
theorem fm_inj {o o' : Int} {hs hs' : List (List UInt8)} {m m' : List UInt8} (v : VA o hs m) (v' : VA o' hs' m') (e : fmA o hs m = fmA o' hs' m') : o = o' ∧ hs = hs' ∧ m = m' := by
  obtain ⟨e1, e2⟩ := first10 (old_no10 v.o0) (old_no10 v'.o0) e
  obtain ⟨e3, e4⟩ := hln_inj v.l v'.l e2
  exact ⟨itoa_inj v.o0 v'.o0 (List.append_cancel_left e1), e3, e4⟩
theorem hln_len : ∀ (hs : List (List UInt8)), (∀ h ∈ hs, h.length = 32) → (hs.flatMap hln).length = hs.length * 45
  | [], _ => rfl
  | h :: hs, l => by
    have e := hln_len hs (fun x hx => l x (List.mem_cons_of_mem _ hx))
    have e2 := b64E_length h
    rw [l h List.mem_cons_self] at e2
    simp only [List.flatMap_cons, List.length_append, e, hln, List.length_cons, List.length_nil, e2]
    omega
theorem fm_len {o : Int} {hs : List (List UInt8)} {m : List UInt8} (v : VA o hs m) : (fmA o hs m).length ≤ 69000 := by
  have h1 := hln_len hs v.l
  have h2 := (itoa_len o (by have := v.o0; omega) (by have := v.o1; omega)).1
  have h3 := v.n
  have h4 : m.length ≤ 65536 := (nt_iff.1 v.m).1
  simp only [fmA, OLD, List.length_append, List.length_cons, List.length_nil, h1]
  omega
/-- what the first line's number tells -/
theorem prs_iff {l : List UInt8} (hl : l.length ≤ 1048576) : (prs l 281474976710656).2 = 0 → 0 ≤ (prs l 281474976710656).1 ∧ (prs l 281474976710656).1 ≤ 281474976710656 ∧ itoa (prs l 281474976710656).1 = l := by
  unfold prs
  rw [if_neg (by omega)]
  split
  · rename_i hn
    split
    · rename_i hb
      intro _
      exact ⟨by simp, hb.1, by rw [itoa_nat]; exact dec_nv l hn⟩
    · intro h; cases h
  · intro h; cases h
theorem prs_back {o : Int} (h0 : 0 ≤ o) (h1 : o ≤ 281474976710656) : prs (itoa o) 281474976710656 = (o, 0) := by
  have hl := (itoa_len o (by omega) (by omega)).1
  obtain ⟨n, rfl⟩ : ∃ n : Nat, o = (n : Int) := ⟨o.toNat, by omega⟩
  unfold prs
  rw [if_neg (by omega), itoa_nat, if_pos (isN_dec n), nv_dec, if_pos (by omega)]
end Go.Proofs.YtaobnnlcfefodaaGreatDoor
