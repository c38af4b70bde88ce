import Derived.Shelf.Strings.Split
import Derived.Test.YtaibjeehjhlicaaGreatDoorRows
import Derived.WalkKit
import Derived.WalkSpells
import Derived.StillTactics
import Derived.StillTailTactics
import Derived.Laws.Pointers
import Derived.RowKit3
import Derived.Handy
import Derived.Below
import Derived.Laws.AppendOwn
import Derived.Laws.BytesArg
import Derived.Deep.QuietTactic
import Derived.BigQuiet
import Derived.Deep.MidRow
import Derived.Lib.Strings
import Derived.Deep.RegionHeld3
namespace Go.Proofs
open Go.Shelf
def Tryz.lays146_ren : Go.Shelf.Ren := ⟨fun | 146 => 124 | 221 => 133 | 268 => 143 | 138 => 144 | 143 => 145 | 195 => 149 | 197 => 150 | 218 => 151 | 219 => 152 | 260 => 154 | 217 => 155 | 225 => 156 | 224 => 157 | 267 => 158 | 266 => 159 | 314 => 160 | n => n, fun | 9 => 9 | 31 => 29 | 3 => 3 | 4 => 4 | 0 => 0 | 105 => 197 | 21 => 21 | 5 => 5 | 46 => 139 | 119 => 201 | 139 => 204 | 138 => 203 | 146 => 205 | 51 => 172 | n => n, fun | 1 => 0 | 3 => 1 | 4 => 2 | n => n⟩
theorem Tryz.lays146 : Go.Proofs.Lays.n146 Tryz.prog Tryz.lays146_ren := {
  mixed := by kernel_rfl
  f138 := Tryz.func144.trans (congrArg some (by kernel_rfl))
  f143 := Tryz.func145.trans (congrArg some (by kernel_rfl))
  f146 := Tryz.func124.trans (congrArg some (by kernel_rfl))
  f195 := Tryz.func149.trans (congrArg some (by kernel_rfl))
  f197 := Tryz.func150.trans (congrArg some (by kernel_rfl))
  f217 := Tryz.func155.trans (congrArg some (by kernel_rfl))
  f218 := Tryz.func151.trans (congrArg some (by kernel_rfl))
  f219 := Tryz.func152.trans (congrArg some (by kernel_rfl))
  f221 := Tryz.func133.trans (congrArg some (by kernel_rfl))
  f224 := Tryz.func157.trans (congrArg some (by kernel_rfl))
  f225 := Tryz.func156.trans (congrArg some (by kernel_rfl))
  f260 := Tryz.func154.trans (congrArg some (by kernel_rfl))
  f266 := Tryz.func159.trans (congrArg some (by kernel_rfl))
  f267 := Tryz.func158.trans (congrArg some (by kernel_rfl))
  f268 := Tryz.func143.trans (congrArg some (by kernel_rfl))
  f314 := Tryz.func160.trans (congrArg some (by kernel_rfl))
  t0 := Tryz.underlying0
  a0 := Tryz.isAgg0
  z0 := Tryz.sizeOf0
  v0 := Tryz.zeroValue0
  t3 := Tryz.underlying3
  a3 := Tryz.isAgg3
  z3 := Tryz.sizeOf3
  v3 := Tryz.zeroValue3
  t4 := Tryz.underlying4
  a4 := Tryz.isAgg4
  z4 := Tryz.sizeOf4
  v4 := Tryz.zeroValue4
  t5 := Tryz.underlying5
  a5 := Tryz.isAgg5
  z5 := Tryz.sizeOf5
  v5 := Tryz.zeroValue5
  t9 := Tryz.underlying9
  a9 := Tryz.isAgg9
  z9 := Tryz.sizeOf9
  v9 := Tryz.zeroValue9
  t21 := Tryz.underlying21
  a21 := Tryz.isAgg21
  z21 := Tryz.sizeOf21
  v21 := Tryz.zeroValue21
  t31 := Tryz.underlying29
  a31 := Tryz.isAgg29
  z31 := Tryz.sizeOf29
  v31 := Tryz.zeroValue29
  t46 := Tryz.underlying139
  a46 := Tryz.isAgg139
  z46 := Tryz.sizeOf139
  v46 := Tryz.zeroValue139
  t51 := Tryz.underlying172
  a51 := Tryz.isAgg172
  z51 := Tryz.sizeOf172
  v51 := Tryz.zeroValue172
  t105 := Tryz.underlying197
  a105 := Tryz.isAgg197
  z105 := Tryz.sizeOf197
  v105 := Tryz.zeroValue197
  t119 := Tryz.underlying201
  a119 := Tryz.isAgg201
  z119 := Tryz.sizeOf201
  t138 := Tryz.underlying203
  a138 := Tryz.isAgg203
  z138 := Tryz.sizeOf203
  v138 := Tryz.zeroValue203
  t139 := Tryz.underlying204
  a139 := Tryz.isAgg204
  z139 := Tryz.sizeOf204
  v139 := Tryz.zeroValue204
  t146 := Tryz.underlying205
  a146 := Tryz.isAgg205
  z146 := Tryz.sizeOf205
  v146 := Tryz.zeroValue205
  g1 := by kernel_rfl
  g3 := by kernel_rfl
  g4 := by kernel_rfl }
end Go.Proofs
/-! plain lemmas on the texts of bytes: hex, base64, quotes; no model in it -/
namespace TextNum

/-- the sixteen digits, the sixty-four letters -/
def DT : List UInt8 := [48, 49, 50, 51, 52, 53, 54, 55, 56, 57, 97, 98, 99, 100, 101, 102]
def LT : List UInt8 := [65, 66, 67, 68, 69, 70, 71, 72, 73, 74, 75, 76, 77, 78, 79, 80, 81, 82, 83, 84, 85, 86, 87, 88, 89, 90, 97, 98, 99, 100, 101, 102, 103, 104, 105, 106, 107, 108, 109, 110, 111, 112, 113, 114, 115, 116, 117, 118, 119, 120, 121, 122, 48, 49, 50, 51, 52, 53, 54, 55, 56, 57, 43, 47]
def dg (i : Nat) : UInt8 := DT.getD i 0
def lt (i : Nat) : UInt8 := LT.getD i 0
/-- the place of a byte in a table -/
def pl (t : List UInt8) (c : UInt8) : Option Nat := t.idxOf? c

theorem pl_some {t : List UInt8} {c : UInt8} {i : Nat} (h : pl t c = some i) : t[i]? = some c := by
  unfold pl at h
  rw [List.idxOf?_eq_some_iff] at h
  obtain ⟨hi, h1, _⟩ := h
  rw [List.getElem?_eq_getElem hi]
  simpa using h1
theorem pl_lt {t : List UInt8} {c : UInt8} {i : Nat} (h : pl t c = some i) : i < t.length := by
  have := pl_some h
  exact (List.getElem?_eq_some_iff.1 this).1
theorem pl_dg {c : UInt8} {i : Nat} (h : pl DT c = some i) : dg i = c ∧ i < 16 := by
  have h1 := pl_some h
  exact ⟨by simp [dg, List.getD, h1], pl_lt h⟩
theorem pl_lt' {c : UInt8} {i : Nat} (h : pl LT c = some i) : lt i = c ∧ i < 64 := by
  have h1 := pl_some h
  exact ⟨by simp [lt, List.getD, h1], pl_lt h⟩
theorem dg_pl : ∀ i, i < 16 → pl DT (dg i) = some i := by decide
theorem lt_pl : ∀ i, i < 64 → pl LT (lt i) = some i := by decide
theorem lt_ne : ∀ i, i < 64 → lt i ≠ 61 := by decide
theorem pl_61 : pl LT 61 = none := by decide

/-! hex -/
def hexE : List UInt8 → List UInt8
  | [] => []
  | b :: r => dg (b.toNat / 16) :: dg (b.toNat % 16) :: hexE r
def hexB (a b : UInt8) : Option UInt8 := match pl DT a, pl DT b with
  | some x, some y => some (UInt8.ofNat (16 * x + y))
  | _, _ => none
def hexD : List UInt8 → Option (List UInt8)
  | [] => some []
  | [_] => none
  | a :: b :: r => match hexB a b with
    | some x => (hexD r).map (x :: ·)
    | none => none
theorem hexB_some {a b x : UInt8} (h : hexB a b = some x) : dg (x.toNat / 16) = a ∧ dg (x.toNat % 16) = b := by
  unfold hexB at h
  split at h
  · rename_i i j hi hj
    obtain ⟨h1, h2⟩ := pl_dg hi
    obtain ⟨h3, h4⟩ := pl_dg hj
    injection h with h
    subst h
    have e : (UInt8.ofNat (16 * i + j)).toNat = 16 * i + j := by simp [UInt8.toNat_ofNat']; omega
    rw [e, show (16 * i + j) / 16 = i by omega, show (16 * i + j) % 16 = j by omega]
    exact ⟨h1, h3⟩
  · cases h
theorem hexB_back (x : UInt8) : hexB (dg (x.toNat / 16)) (dg (x.toNat % 16)) = some x := by
  have hx := x.toNat_lt
  unfold hexB
  rw [dg_pl _ (by omega), dg_pl _ (by omega)]
  simp only
  rw [show 16 * (x.toNat / 16) + x.toNat % 16 = x.toNat by omega, UInt8.ofNat_toNat]
theorem hexE_length : ∀ l, (hexE l).length = 2 * l.length
  | [] => rfl
  | b :: r => by simp [hexE, hexE_length r]; omega
theorem hexE_append : ∀ a b, hexE (a ++ b) = hexE a ++ hexE b
  | [], b => rfl
  | x :: a, b => by simp [hexE, hexE_append a b]
theorem hexE_snoc (a : List UInt8) (x : UInt8) : hexE (a ++ [x]) = hexE a ++ [dg (x.toNat / 16), dg (x.toNat % 16)] := by rw [hexE_append]; rfl
theorem hex_once : ∀ s x, hexD s = some x → hexE x = s
  | [], x, h => by simp [hexD] at h; subst h; rfl
  | [_], x, h => by simp [hexD] at h
  | a :: b :: r, x, h => by
    simp only [hexD] at h
    split at h
    · rename_i y hy
      obtain ⟨l, hl, rfl⟩ := Option.map_eq_some_iff.1 h
      obtain ⟨h1, h2⟩ := hexB_some hy
      simp [hexE, h1, h2, hex_once r l hl]
    · cases h
theorem hex_back : ∀ x, hexD (hexE x) = some x
  | [] => rfl
  | b :: r => by simp [hexE, hexD, hexB_back, hex_back r]
theorem hexD_length : ∀ s x, hexD s = some x → s.length = 2 * x.length := fun s x h => by rw [← hex_once s x h, hexE_length]

/-! quotes -/
def its (x : UInt8) : Bool := decide (32 ≤ x.toNat) && decide (x.toNat ≤ 126) && decide (x.toNat ≠ 34) && decide (x.toNat ≠ 92)
def qb (x : UInt8) : List UInt8 := if its x then [x] else [92, 120, dg (x.toNat / 16), dg (x.toNat % 16)]
def qs : List UInt8 → List UInt8
  | [] => []
  | b :: r => qb b ++ qs r
def quo (l : List UInt8) : List UInt8 := 34 :: (qs l ++ [34])
/-- the byte with whose form a text begins, and the form's length -/
def esc : List UInt8 → Option (UInt8 × Nat)
  | 92 :: 120 :: a :: b :: _ => match hexB a b with
      | some x => if its x then none else some (x, 4)
      | none => none
  | _ => none
def fb (s : List UInt8) : Option (UInt8 × Nat) := match s.head? with
  | none => none
  | some c => if its c then some (c, 1) else esc s
theorem fb_cons {c : UInt8} {r : List UInt8} : fb (c :: r) = if its c then some (c, 1) else esc (c :: r) := rfl
theorem fb_cons_its {c : UInt8} {r : List UInt8} (h : its c = true) : fb (c :: r) = some (c, 1) := by rw [fb_cons, if_pos h]
theorem its_92 : its 92 = false := by decide
theorem its_34 : its 34 = false := by decide
theorem fb_esc (a b : UInt8) (r : List UInt8) : fb (92 :: 120 :: a :: b :: r) = match hexB a b with | some x => if its x then none else some (x, 4) | none => none := by
  rw [fb_cons, its_92]; rfl
/-- fb's answer is a whole form -/
theorem fb_some {s : List UInt8} {x : UInt8} {n : Nat} (h : fb s = some (x, n)) : qb x = s.take n ∧ 0 < n ∧ n ≤ s.length := by
  match s with
  | [] => simp [fb] at h
  | c :: r =>
    by_cases hc : its c = true
    · rw [fb_cons_its hc] at h
      simp at h
      obtain ⟨rfl, rfl⟩ := h
      simp [qb, hc]
    · rw [fb_cons, if_neg hc] at h
      unfold esc at h
      split at h
      · rename_i a b r' e
        injection e with e1 e2
        subst e1 e2
        split at h
        · rename_i y hy
          split at h
          · cases h
          · rename_i hz
            simp at h
            obtain ⟨rfl, rfl⟩ := h
            obtain ⟨h1, h2⟩ := hexB_some hy
            simp [qb, hz, h1, h2]
        · cases h
      · cases h
theorem fb_qb (x : UInt8) (r : List UInt8) : fb (qb x ++ r) = some (x, (qb x).length) := by
  unfold qb
  by_cases h : its x = true
  · rw [if_pos h]; simp [fb_cons_its h]
  · rw [if_neg h]
    show fb (92 :: 120 :: _ :: _ :: r) = _
    rw [fb_esc, hexB_back]
    simp [h]
/-- what stands between the marks, read with f steps at most -/
def uqs : Nat → List UInt8 → Option (List UInt8)
  | _, [] => some []
  | 0, _ :: _ => none
  | f + 1, s => match fb s with
    | some (x, n) => (uqs f (s.drop n)).map (x :: ·)
    | none => none
def unq (s : List UInt8) : Option (List UInt8) :=
  if s.length < 2 ∨ s.head? ≠ some 34 ∨ s.getLast? ≠ some 34 then none else uqs s.length ((s.drop 1).dropLast)
theorem uqs_once : ∀ f s x, uqs f s = some x → qs x = s
  | _, [], x, h => by unfold uqs at h; simp at h; subst h; rfl
  | 0, c :: r, x, h => by simp [uqs] at h
  | f + 1, c :: r, x, h => by
    simp only [uqs] at h
    split at h
    · rename_i y n hy
      obtain ⟨l, hl, rfl⟩ := Option.map_eq_some_iff.1 h
      obtain ⟨h1, _, _⟩ := fb_some hy
      rw [qs, h1, uqs_once f _ l hl, List.take_append_drop]
    · cases h
theorem qb_pos (x : UInt8) : 0 < (qb x).length := by unfold qb; split <;> simp
theorem uqs_back : ∀ (f : Nat) (l : List UInt8), (qs l).length ≤ f → uqs f (qs l) = some l
  | _, [], _ => by simp [qs, uqs]
  | 0, b :: r, h => by
    have h0 := qb_pos b
    have h1 : (qs (b :: r)).length = (qb b).length + (qs r).length := by simp [qs]
    omega
  | f + 1, b :: r, h => by
    have h0 := qb_pos b
    have h1 : (qs (b :: r)).length = (qb b).length + (qs r).length := by simp [qs]
    have e : ∃ c t, qs (b :: r) = c :: t := by
      cases hq : qs (b :: r) with
      | nil => rw [hq] at h1; simp at h1; omega
      | cons c t => exact ⟨c, t, rfl⟩
    obtain ⟨c, t, e⟩ := e
    rw [e]
    simp only [uqs]
    rw [← e, qs, fb_qb]
    simp only [List.drop_left']
    rw [uqs_back f r (by omega)]
    rfl
theorem quote_once (s x : List UInt8) (h : unq s = some x) : quo x = s := by
  unfold unq at h
  split at h
  · cases h
  · rename_i hc
    simp only [not_or, Nat.not_lt, ne_eq, Decidable.not_not] at hc
    obtain ⟨h2, hh, hl⟩ := hc
    have h3 := uqs_once _ _ _ h
    match s with
    | a :: r =>
      simp at hh
      subst hh
      simp at h2
      unfold quo
      rw [h3]
      have hr : r ≠ [] := by intro e; subst e; simp at h2
      rw [List.getLast?_cons_of_ne_nil hr] at hl
      simp only [List.drop_one, List.tail_cons]
      rw [List.getLast?_eq_some_getLast hr] at hl
      injection hl with hl
      rw [← hl, List.dropLast_concat_getLast]
theorem quote_back (x : List UInt8) : unq (quo x) = some x := by
  unfold unq
  rw [if_neg]
  · rw [show ((quo x).drop 1).dropLast = qs x by simp [quo]]
    exact uqs_back _ _ (by simp [quo]; omega)
  · simp [quo]
    exact List.getLast?_concat (l := 34 :: qs x)
theorem qs_append : ∀ a b, qs (a ++ b) = qs a ++ qs b
  | [], b => rfl
  | x :: a, b => by simp [qs, qs_append a b]
theorem qs_length : ∀ l : List UInt8, l.length ≤ (qs l).length ∧ (qs l).length ≤ 4 * l.length
  | [] => by simp [qs]
  | x :: a => by
    have := qs_length a
    have h : (qb x).length = 1 ∨ (qb x).length = 4 := by unfold qb; split <;> simp
    simp [qs]
    omega

end TextNum
namespace Go.Proofs.YtaibjeehjhlicaaGreatDoor
open Go.RowKit TextNum

/-- a byte, a text, a list of bytes as values -/
abbrev vb (c : UInt8) : Value := .int .u8 (c.toNat : Int)
abbrev vs (l : List UInt8) : Value := .string ⟨l.toArray⟩
def cb (l : List UInt8) : List Value := l.map fun c => Value.int .u8 (c.toNat : Int)
theorem cb_length (l : List UInt8) : (cb l).length = l.length := by simp [cb]
theorem cb_append (a b : List UInt8) : cb (a ++ b) = cb a ++ cb b := by simp [cb]
theorem cb_get {l : List UInt8} {i : Nat} (h : i < l.length) : (cb l)[i]? = some (.int .u8 (l[i].toNat : Int)) := by simp [cb, h]
theorem Hid.of {p : Prop} (h : p) : Hid p := h

/-- what was there is as it was -/
def Up (w w' : World) : Prop := Below w.heap.size w w'
theorem Up.refl (w : World) : Up w w := Below.refl _ _
theorem Up.trans {a b c : World} (h : Up a b) (k : Up b c) : Up a c := Below.trans h (Below.mono k h.size)
theorem Up.drew {a w : World} (h : Up a w) : Up a w.drew := Below.drew h
theorem Up.drewN {a w : World} (h : Up a w) (n : Nat) : Up a (w.drewN n) := ⟨h.os, h.tape, h.output, h.size, h.block⟩
theorem Up.alloc {a w : World} (h : Up a w) (o : Obj) : Up a (w.alloc o) := Below.alloc h h.size o
theorem Up.cell {a w : World} (h : Up a w) {p : Addr} {v : Value} (hp : a.cell? p = some v) : w.cell? p = some v := by
  have hb : p.block < a.heap.size := by
    rcases Nat.lt_or_ge p.block a.heap.size with h1 | h1
    · exact h1
    · simp [World.cell?, Array.getElem?_eq_none h1] at hp
  rw [Below.cell h hb]; exact hp

theorem sget' (s : ByteArray) (i : Nat) (h : i < s.size) : s[i] = s.data.toList[i]'(by rw [← Go.Lib.size_eq]; exact h) := rfl
theorem head_of' {s : ByteArray} (h : 0 < s.size) : ∃ r, s.data.toList = s[0] :: r := by
  have hl : 0 < s.data.toList.length := by rw [← Go.Lib.size_eq]; exact h
  refine ⟨s.data.toList.drop 1, ?_⟩
  rw [sget' s 0 h]
  have := List.drop_eq_getElem_cons hl
  simpa using this
theorem u8_eq {a b : UInt8} : ((a.toNat : Int) == (b.toNat : Int)) = (a == b) := by
  rw [Bool.eq_iff_iff]
  simp only [beq_iff_eq]
  exact ⟨fun h => UInt8.toNat_inj.1 (by omega), fun h => by rw [h]⟩
end Go.Proofs.YtaibjeehjhlicaaGreatDoor
