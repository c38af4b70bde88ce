import Derived.Test.YtbdbpmeaiiodgaaDoorNm0
import Derived.Test.YtbdbpmeaiiodgaaDoorLp
import Derived.Test.YtbdbpmeaiiodgaaDoorBd
import Derived.Test.YtbdbpmeaiiodgaaDoorCt7
import Derived.Test.YtbdbpmeaiiodgaaDoorOp
import Derived.Test.YtbdbpmeaiiodgaaDoorNm
import Derived.Test.YtbdbpmeaiiodgaaDoorAs
import Derived.Lib.ConvBytes
import Derived.Laws.OwnMore
import Derived.Test.YtbdbpmeaiiodgaaDoorBf
import Derived.Deep.MidRow
import Derived.Deep.RegionHeld3
import Derived.Laws.BitsAllLaws
import Derived.Test.YtbdbpmeaiiodgaaDoorHq
import Derived.Test.YtbdbpmeaiiodgaaDoorLx
import Derived.Test.YtbdbpmeaiiodgaaDoorSl
import Derived.Shelf.Small.Wraps
import Derived.Laws.Cover3
import Derived.Test.YtbdbpmeaiiodgaaDoorLy
namespace Go.Proofs.YtbdbpmeaiiodgaaDoor
section
open Go.RowKit TextNum
/-- a signature -/
structure Sg where
  name : ByteArray
  hash : Nat
  bytes : List UInt8
def MK : List UInt8 := [226, 128, 148, 32]
/-- a key's hash in bytes, and back -/
def hb4 (h : Nat) : List UInt8 := [UInt8.ofNat (h / 16777216), UInt8.ofNat (h / 65536), UInt8.ofNat (h / 256), UInt8.ofNat h]
def h4 (b : List UInt8) : Nat := (b.getD 0 0).toNat * 16777216 + (b.getD 1 0).toNat * 65536 + (b.getD 2 0).toNat * 256 + (b.getD 3 0).toNat
theorem h4_hb4 {h : Nat} (hh : h < 4294967296) (x : List UInt8) : h4 (hb4 h ++ x) = h := by
  simp only [h4, hb4, List.cons_append, List.nil_append, List.getD_cons_zero, List.getD_cons_succ, UInt8.toNat_ofNat']
  omega
theorem hb4_h4 {b : List UInt8} (hb : 4 ≤ b.length) : hb4 (h4 b) ++ b.drop 4 = b := by
  match b, hb with
  | a :: c :: d :: e :: r, _ =>
    have ha := a.toNat_lt; have hc := c.toNat_lt; have hd := d.toNat_lt; have he := e.toNat_lt
    simp only [h4, hb4, List.getD_cons_zero, List.getD_cons_succ, List.drop_succ_cons, List.drop_zero, List.cons_append, List.nil_append, List.cons.injEq, and_true]
    refine ⟨?_, ?_, ?_, ?_⟩ <;> apply UInt8.toNat_inj.1 <;> rw [UInt8.toNat_ofNat'] <;> omega
theorem h4_lt (b : List UInt8) : h4 b < 4294967296 := by
  have := (b.getD 0 0).toNat_lt; have := (b.getD 1 0).toNat_lt; have := (b.getD 2 0).toNat_lt; have := (b.getD 3 0).toNat_lt
  unfold h4
  omega
/-- a signature's line, without its end -/
def sigB (s : Sg) : List UInt8 := MK ++ s.name.data.toList ++ [32] ++ b64E (hb4 s.hash ++ s.bytes)
def fmtN (t : List UInt8) (ss : List Sg) : List UInt8 := t ++ 10 :: joinL (ss.map sigB)
def okS (s : Sg) : Prop := nameR s.name = 0 ∧ s.bytes ≠ []
def okT (t : ByteArray) : Prop := t.data.toList.getLast? = some 10 ∧ plainR t = 0
def sgLen (s : Sg) : Nat := 4 + s.name.size + 1 + (4 + s.bytes.length + 2) / 3 * 4 + 1
def sumL : List Sg → Nat
  | [] => 0
  | s :: r => sgLen s + sumL r
def nlen (t : ByteArray) (ss : List Sg) : Nat := t.size + 1 + sumL ss
theorem joinL_len (ss : List Sg) : (joinL (ss.map sigB)).length = sumL ss := by
  induction ss with
  | nil => rfl
  | cons s r ih =>
    rw [List.map_cons, joinL_cons, List.length_append, List.length_cons, ih]
    simp only [sumL, sgLen, sigB, MK, List.length_append, List.length_cons, List.length_nil, b64E_length, hb4]
    rw [← Go.Lib.size_eq]
    omega
theorem fmtN_len (t : ByteArray) (ss : List Sg) : (fmtN t.data.toList ss).length = nlen t ss := by
  unfold fmtN nlen
  rw [List.length_append, List.length_cons, joinL_len, ← Go.Lib.size_eq]
  omega
def Lng (t : ByteArray) (ss : List Sg) : Prop := 16 < ss.length ∨ 65536 < nlen t ss
def Fine (t : ByteArray) (ss : List Sg) : Prop := okT t ∧ ss ≠ [] ∧ ∀ s, s ∈ ss → okS s
/-- Format's number -/
def FR (t : ByteArray) (ss : List Sg) (er : Int) : Prop := (er = 2 ∧ Lng t ss) ∨ (er = 74 ∧ ¬ Lng t ss ∧ ¬ Fine t ss) ∨ (er = 0 ∧ ¬ Lng t ss ∧ Fine t ss)
/-- a line read -/
def rdS (l : List UInt8) : Option Sg :=
  if Go.Lib.hasPrefix l MK = true then
    (if nameR ⟨(Go.Lib.cut (l.drop 4) [32]).1.toArray⟩ ≠ 0 ∨ (b64R (Go.Lib.cut (l.drop 4) [32]).2.1).2 ≠ 0 ∨ (b64R (Go.Lib.cut (l.drop 4) [32]).2.1).1.length ≤ 4 then none
     else some ⟨⟨(Go.Lib.cut (l.drop 4) [32]).1.toArray⟩, h4 (b64R (Go.Lib.cut (l.drop 4) [32]).2.1).1, (b64R (Go.Lib.cut (l.drop 4) [32]).2.1).1.drop 4⟩)
  else none
/-- all lines -/
def rdL (ls : List (List UInt8)) (ss : List Sg) : Prop := ls.map rdS = ss.map some
def Tl (l : List UInt8) (ss : List Sg) : Prop := lnE l = 0 ∧ linesOf l ≠ [] ∧ (linesOf l).length ≤ 16 ∧ rdL (linesOf l) ss
def Spl (m : List UInt8) (t : ByteArray) (ss : List Sg) : Prop := ∃ i, bk m i ∧ (∀ j, i < j → ¬ bk m j) ∧ t.data.toList = m.take (i + 1) ∧ okT t ∧ Tl (m.drop (i + 2)) ss
/-- Split's number -/
def SR (m : List UInt8) (t : ByteArray) (ss : List Sg) (er : Int) : Prop := (er = 2 ∧ 65536 < m.length) ∨ (er = 74 ∧ m.length ≤ 65536 ∧ ¬ ∃ t ss, Spl m t ss) ∨ (er = 0 ∧ m.length ≤ 65536 ∧ Spl m t ss)

theorem cut_at (l : List UInt8) (c : UInt8) : (∃ a r, Go.Lib.cut l [c] = (a, r, true) ∧ l = a ++ c :: r ∧ c ∉ a) ∨ (Go.Lib.cut l [c] = (l, [], false) ∧ c ∉ l) := by
  have hi : Go.Lib.index l [c] = Go.Lib.indexByte l c := Go.Lib.index_one l c
  unfold Go.Lib.cut
  rw [hi]
  have hge := Go.Lib.indexByte_ge l c
  by_cases h : 0 ≤ Go.Lib.indexByte l c
  · left
    rw [if_pos h]
    obtain ⟨o, ho⟩ := Int.eq_ofNat_of_zero_le h
    obtain ⟨h1, h2⟩ := Go.Lib.indexByte_some ho
    obtain ⟨hol, h1'⟩ := List.getElem?_eq_some_iff.1 h1
    refine ⟨l.take o, l.drop (o + 1), by rw [ho]; rfl, ?_, ?_⟩
    · conv => lhs; rw [← List.take_append_drop o l, List.drop_eq_getElem_cons hol, h1']
    · intro hm
      obtain ⟨k, hk, e⟩ := List.getElem_of_mem hm
      have hk' : k < o := by rw [List.length_take] at hk; omega
      refine h2 k hk' ?_
      rw [List.getElem?_eq_getElem (by omega), ← e, List.getElem_take]
  · right
    rw [if_neg h]
    have h3 := Go.Lib.indexByte_none (l := l) (c := c) (by omega)
    refine ⟨rfl, fun hm => ?_⟩
    obtain ⟨k, hk, e⟩ := List.getElem_of_mem hm
    exact h3 k (by rw [List.getElem?_eq_getElem hk, e])
theorem pre_eq {c : UInt8} : ∀ {a b r s : List UInt8}, a ++ c :: r = b ++ c :: s → c ∉ a → c ∉ b → a = b ∧ r = s
  | [], [], r, s, h, _, _ => by simpa using h
  | [], y :: b, r, s, h, _, hb => by simp at h; exact absurd (by simp [h.1]) hb
  | x :: a, [], r, s, h, ha, _ => by simp at h; exact absurd (by simp [h.1]) ha
  | x :: a, y :: b, r, s, h, ha, hb => by
    simp only [List.cons_append, List.cons.injEq] at h
    obtain ⟨e1, e2⟩ := pre_eq h.2 (fun e => ha (by simp [e])) (fun e => hb (by simp [e]))
    exact ⟨by rw [h.1, e1], e2⟩
theorem cut_hit {a r : List UInt8} {c : UInt8} (h : c ∉ a) : Go.Lib.cut (a ++ c :: r) [c] = (a, r, true) := by
  rcases cut_at (a ++ c :: r) c with ⟨a', r', e, e2, h2⟩ | ⟨_, h2⟩
  · obtain ⟨rfl, rfl⟩ := pre_eq e2 h h2
    exact e
  · exact absurd (by simp) h2
theorem name_byte {o : ByteArray} (h : nameR o = 0) {c : UInt8} (hc : c.toNat ≤ 32) : c ∉ o.data.toList := by
  intro hm
  obtain ⟨k, hk, e⟩ := List.getElem_of_mem hm
  have hk' : k < o.size := by rw [Go.Lib.size_eq]; exact hk
  have := (((name_iff o).1 h).2.2.2 k hk').1
  refine this (.inl ?_)
  rw [gb_list, List.getD_eq_getElem?_getD, List.getElem?_eq_getElem hk, e]
  exact hc
theorem lt_no10' (i : Nat) : lt i ≠ 10 := by
  unfold lt
  rcases Nat.lt_or_ge i 64 with h | h
  · have : ∀ k : Fin 64, TextNum.LT.getD k.1 0 ≠ 10 := by decide
    exact this ⟨i, h⟩
  · rw [List.getD_eq_getElem?_getD, List.getElem?_eq_none (by simpa [TextNum.LT] using h)]
    decide
theorem g_no10' : ∀ (x : List UInt8), (10 : UInt8) ∉ b64E x
  | [] => by simp [b64E]
  | [x] => by simp [b64E, g1, Ne.symm (lt_no10' _)]
  | [x, y] => by simp [b64E, g2, Ne.symm (lt_no10' _)]
  | x :: y :: z :: r => by
    have := g_no10' r
    simp [b64E, g3, Ne.symm (lt_no10' _), this]
theorem sigB_no10 {s : Sg} (h : okS s) : (10 : UInt8) ∉ sigB s := by
  have h1 := name_byte h.1 (c := 10) (by decide)
  have h2 := g_no10' (hb4 s.hash ++ s.bytes)
  intro hm
  simp only [sigB, MK, List.mem_append, List.mem_cons, List.not_mem_nil, or_false] at hm
  rcases hm with ((hm | hm) | hm) | hm
  · revert hm; decide
  · exact h1 hm
  · revert hm; decide
  · exact h2 hm
theorem b64R_back (b : List UInt8) (h : (b64E b).length ≤ 1048576) : b64R (b64E b) = (b, 0) := b64R_some (by omega) (b64_back b)
theorem mk_pre (r : List UInt8) : Go.Lib.hasPrefix (MK ++ r) MK = true := by simp [Go.Lib.hasPrefix, MK, List.isPrefixOf]
theorem ba_eta (o : ByteArray) : (⟨o.data.toList.toArray⟩ : ByteArray) = o := by cases o; simp
/-- what is written is read -/
theorem rdS_sigB {s : Sg} (h : okS s) (hh : s.hash < 4294967296) (hl : sgLen s ≤ 65536) : rdS (sigB s) = some s := by
  have e : sigB s = MK ++ (s.name.data.toList ++ 32 :: b64E (hb4 s.hash ++ s.bytes)) := by simp [sigB]
  have hlen : (b64E (hb4 s.hash ++ s.bytes)).length ≤ 1048576 := by
    rw [b64E_length, List.length_append]
    simp only [hb4, List.length_cons, List.length_nil]
    unfold sgLen at hl
    omega
  unfold rdS
  rw [e, if_pos (mk_pre _), show (MK ++ (s.name.data.toList ++ 32 :: b64E (hb4 s.hash ++ s.bytes))).drop 4 = s.name.data.toList ++ 32 :: b64E (hb4 s.hash ++ s.bytes) from rfl,
    cut_hit (name_byte h.1 (by decide))]
  simp only
  rw [b64R_back _ hlen, ba_eta, if_neg]
  · rw [h4_hb4 hh]
    rfl
  · have hb := List.length_pos_iff.2 h.2
    rintro (hx | hx | hx)
    · exact hx h.1
    · exact hx rfl
    · simp only [hb4, List.length_append, List.length_cons, List.length_nil] at hx
      omega
theorem rdS_some {l : List UInt8} {s : Sg} (h : rdS l = some s) : okS s ∧ sigB s = l ∧ s.hash < 4294967296 := by
  unfold rdS at h
  split at h
  · rename_i hp
    split at h
    · cases h
    · rename_i hc
      simp only [not_or, Nat.not_le] at hc
      obtain ⟨c1, c2, c3⟩ := hc
      have c1 := Classical.not_not.1 c1
      have c2 := Classical.not_not.1 c2
      injection h with h
      subst h
      have hl : l = MK ++ l.drop 4 := by
        have := (List.isPrefixOf_iff_prefix).1 hp
        obtain ⟨r, hr⟩ := this
        rw [← hr]; rfl
      generalize l.drop 4 = r at *
      subst hl
      rcases cut_at r 32 with ⟨a, q, e, rfl, _⟩ | ⟨e, _⟩
      · rw [e] at c1 c2 c3 ⊢
        simp only at c1 c2 c3 ⊢
        have hq : b64E (b64R q).1 = q := by
          unfold b64R at c2 c3 ⊢
          split at c2
          · cases c2
          · rename_i hq0
            rw [if_neg hq0] at c3 ⊢
            cases hd : b64D q with
            | none => rw [hd] at c2; cases c2
            | some x => rw [hd] at c2 c3; exact b64_once q x hd
        refine ⟨⟨c1, fun e => ?_⟩, ?_, h4_lt _⟩
        · have := congrArg List.length e
          simp only [List.length_drop, List.length_nil] at this
          omega
        · simp only [sigB]
          rw [hb4_h4 (by omega), hq]
          simp
      · rw [e] at c3
        exact absurd (show 4 < (b64R []).1.length from c3) (by decide)
  · cases h
theorem rdL_sigB {ss : List Sg} (h : ∀ s, s ∈ ss → okS s ∧ s.hash < 4294967296 ∧ sgLen s ≤ 65536) : rdL (ss.map sigB) ss := by
  unfold rdL
  rw [List.map_map]
  apply List.map_congr_left
  intro s hs
  exact rdS_sigB (h s hs).1 (h s hs).2.1 (h s hs).2.2
theorem rdL_lines : ∀ {ls : List (List UInt8)} {ss : List Sg}, rdL ls ss → ls = ss.map sigB ∧ ∀ s, s ∈ ss → okS s ∧ s.hash < 4294967296
  | [], [], _ => ⟨rfl, by simp⟩
  | [], s :: ss, h => by simp [rdL] at h
  | l :: ls, [], h => by simp [rdL] at h
  | l :: ls, s :: ss, h => by
    simp only [rdL, List.map_cons, List.cons.injEq] at h
    obtain ⟨e1, e2⟩ := rdL_lines (ls := ls) (ss := ss) h.2
    obtain ⟨a1, a2, a3⟩ := rdS_some h.1
    refine ⟨by rw [List.map_cons, ← e1, a2], fun x hx => ?_⟩
    rcases List.mem_cons.1 hx with rfl | hx
    · exact ⟨a1, a3⟩
    · exact e2 x hx
theorem sgLen_le {s : Sg} {ss : List Sg} (h : s ∈ ss) : sgLen s ≤ sumL ss := by
  induction ss with
  | nil => cases h
  | cons x r ih =>
    rcases List.mem_cons.1 h with rfl | h
    · simp [sumL]
    · have := ih h; simp only [sumL]; omega
theorem joinL_last : ∀ (xs : List (List UInt8)), xs ≠ [] → (joinL xs).getLast? = some 10
  | [], h => absurd rfl h
  | [x], _ => by simp [joinL]
  | x :: y :: r, _ => by
    rw [joinL_cons]
    have := joinL_last (y :: r) (by simp)
    rw [show x ++ 10 :: joinL (y :: r) = (x ++ [10]) ++ joinL (y :: r) by simp, List.getLast?_append, this]
    rfl
/-- lines that are not empty have no blank line among them -/
theorem join_nobk : ∀ (xs : List (List UInt8)), (∀ x, x ∈ xs → (10 : UInt8) ∉ x ∧ x ≠ []) → ∀ j, ¬ bk (10 :: joinL xs) j
  | [], _, j => by
    rintro ⟨h1, h2⟩
    cases j with
    | zero => simp [joinL] at h2
    | succ j => simp [joinL] at h2
  | x :: r, h, j => by
    rintro ⟨h1, h2⟩
    have hx := h x (by simp)
    rw [joinL_cons] at h1 h2
    have hxl := List.length_pos_iff.2 hx.2
    rcases Nat.lt_or_ge j (x.length + 1) with hj | hj
    · cases j with
      | zero =>
        rw [List.getElem?_cons_succ, List.getElem?_append_left (by omega)] at h2
        exact hx.1 (List.mem_of_getElem? h2)
      | succ j =>
        rw [List.getElem?_cons_succ, List.getElem?_append_left (by omega)] at h1
        exact hx.1 (List.mem_of_getElem? h1)
    · obtain ⟨k, rfl⟩ : ∃ k, j = x.length + 1 + k := ⟨j - (x.length + 1), by omega⟩
      refine join_nobk r (fun y hy => h y (by simp [hy])) k ⟨?_, ?_⟩
      · rw [show x.length + 1 + k = (x.length + k) + 1 by omega, List.getElem?_cons_succ, List.getElem?_append_right (by omega)] at h1
        rwa [show x.length + k - x.length = k by omega] at h1
      · rw [show x.length + 1 + k + 1 = (x.length + (k + 1)) + 1 by omega, List.getElem?_cons_succ, List.getElem?_append_right (by omega)] at h2
        rwa [show x.length + (k + 1) - x.length = k + 1 by omega] at h2
theorem sigB_ne (s : Sg) : sigB s ≠ [] := by simp [sigB, MK]
/-- what Format gives Split takes apart -/
theorem split_fmt {t : ByteArray} {ss : List Sg} (hL : ¬ Lng t ss) (hF : Fine t ss) (hh : ∀ s, s ∈ ss → s.hash < 4294967296) : Spl (fmtN t.data.toList ss) t ss ∧ (fmtN t.data.toList ss).length ≤ 65536 := by
  have hlen := fmtN_len t ss
  unfold Lng at hL
  simp only [not_or, Nat.not_lt] at hL
  refine ⟨?_, by omega⟩
  obtain ⟨⟨ht, hp⟩, hne, hok⟩ := hF
  have hno : ∀ x, x ∈ ss.map sigB → (10 : UInt8) ∉ x ∧ x ≠ [] := fun x hx => by
    obtain ⟨s, hs, rfl⟩ := List.mem_map.1 hx
    exact ⟨sigB_no10 (hok s hs), sigB_ne s⟩
  have htl : t.data.toList ≠ [] := by rintro e; rw [e] at ht; cases ht
  have htp := List.length_pos_iff.2 htl
  have hsum : sumL ss ≤ 65536 := by unfold nlen at hL; omega
  unfold fmtN
  generalize hT : t.data.toList = T at *
  have hlast : T[T.length - 1]? = some 10 := by rw [← List.getLast?_eq_getElem?]; exact ht
  refine ⟨T.length - 1, ⟨?_, ?_⟩, ?_, ?_, ⟨by rw [hT]; exact ht, hp⟩, ?_⟩
  · rw [List.getElem?_append_left (by omega)]; exact hlast
  · rw [show T.length - 1 + 1 = T.length by omega, List.getElem?_append_right (Nat.le_refl _)]; simp
  · intro j hj hb
    refine join_nobk (ss.map sigB) hno (j - T.length) ?_
    obtain ⟨h1, h2⟩ := hb
    rw [List.getElem?_append_right (by omega)] at h1 h2
    exact ⟨h1, by rw [show j - T.length + 1 = j + 1 - T.length by omega]; exact h2⟩
  · rw [show T.length - 1 + 1 = T.length by omega, List.take_left' rfl, hT]
  · have hd : (T ++ 10 :: joinL (ss.map sigB)).drop (T.length - 1 + 2) = joinL (ss.map sigB) := by
      rw [show T.length - 1 + 2 = T.length + 1 by omega, ← List.drop_drop, List.drop_left' rfl]; rfl
    rw [hd]
    have hlj : linesOf (joinL (ss.map sigB)) = ss.map sigB := lines_join _ (fun x hx => (hno x hx).1)
    have hml : ss.map sigB ≠ [] := by simpa using hne
    refine ⟨?_, by rw [hlj]; exact hml, by rw [hlj, List.length_map]; exact hL.1, by rw [hlj]; exact rdL_sigB (fun s hs => ⟨hok s hs, hh s hs, by have := sgLen_le hs; omega⟩)⟩
    unfold lnE
    rw [if_neg (by rw [joinL_len]; omega), if_pos (.inr (joinL_last _ hml))]
theorem spl_fmt {m : List UInt8} {t : ByteArray} {ss : List Sg} (h : Spl m t ss) (hm : m.length ≤ 65536) : ¬ Lng t ss ∧ Fine t ss ∧ fmtN t.data.toList ss = m ∧ ∀ s, s ∈ ss → s.hash < 4294967296 := by
  obtain ⟨i, hb, _, ht, hok, h0, hne, h16, hr⟩ := h
  obtain ⟨e1, e2⟩ := rdL_lines hr
  have hj : joinL (linesOf (m.drop (i + 2))) = m.drop (i + 2) := by
    refine join_lines _ ?_
    unfold lnE at h0
    split at h0
    · cases h0
    · split at h0
      · assumption
      · cases h0
  have hm2 : fmtN t.data.toList ss = m := by
    unfold fmtN
    rw [← e1, hj, ht]
    obtain ⟨hl, e⟩ := List.getElem?_eq_some_iff.1 hb.2
    conv => rhs; rw [← List.take_append_drop (i + 1) m, List.drop_eq_getElem_cons hl, e]
  refine ⟨?_, ⟨hok, ?_, fun s hs => (e2 s hs).1⟩, hm2, fun s hs => (e2 s hs).2⟩
  · have := fmtN_len t ss
    rw [hm2] at this
    have h2 : ss.length = (linesOf (m.drop (i + 2))).length := by rw [e1, List.length_map]
    unfold Lng
    omega
  · rintro rfl
    rw [e1] at hne
    exact hne rfl
theorem ba_list7 {s t : ByteArray} (h : s.data.toList = t.data.toList) : s = t := by
  obtain ⟨⟨x⟩⟩ := s
  obtain ⟨⟨y⟩⟩ := t
  simp at h
  rw [h]
theorem spl_one {m : List UInt8} {t t' : ByteArray} {ss ss' : List Sg} (h : Spl m t ss) (h' : Spl m t' ss') : t = t' ∧ ss = ss' := by
  obtain ⟨i, hb, hn, ht, _, _, _, _, hr⟩ := h
  obtain ⟨i', hb', hn', ht', _, _, _, _, hr'⟩ := h'
  obtain rfl : i = i' := by
    rcases Nat.lt_trichotomy i i' with h | h | h
    · exact absurd hb' (hn _ h)
    · exact h
    · exact absurd hb (hn' _ h)
  refine ⟨ba_list7 (ht.trans ht'.symm), ?_⟩
  have := hr.symm.trans hr'
  exact (List.map_inj_right (fun x y => Option.some.inj)).1 this
end
section
open Go.RowKit TextNum
/-- a list of signatures that is read -/
def SgAt (w : World) (b o : Nat) (s : Sg) : Prop := ∃ a n c, w.cell? ⟨b, o, none⟩ = some (.string s.name) ∧ w.cell? ⟨b, o + 1, none⟩ = some (.int .u32 (s.hash : Int)) ∧ w.cell? ⟨b, o + 2, none⟩ = some (.slice a n c) ∧ n = s.bytes.length ∧ Sl w (.slice a n c) s.bytes
def SigL (w : World) (v : Value) (ss : List Sg) : Prop := ∃ a c, v = .slice a ss.length c ∧ ss.length ≤ c ∧ (ss = [] ∨ ∃ b off, a = some ⟨b, off, none⟩ ∧ b < w.heap.size ∧ ∀ i (h : i < ss.length), SgAt w b (off + i * 3) ss[i])
theorem SgAt.up {w w' : World} {b o : Nat} {s : Sg} (h : SgAt w b o s) (u : Up w w') : SgAt w' b o s := by
  obtain ⟨a, n, c, h1, h2, h3, h4, h5⟩ := h
  exact ⟨a, n, c, u.cell h1, u.cell h2, u.cell h3, h4, h5.up u⟩
theorem SigL.up {w w' : World} {v : Value} {ss : List Sg} (h : SigL w v ss) (u : Up w w') : SigL w' v ss := by
  obtain ⟨a, c, e, hc, h⟩ := h
  refine ⟨a, c, e, hc, ?_⟩
  rcases h with h | ⟨b, off, e2, hb, h⟩
  · exact .inl h
  · exact .inr ⟨b, off, e2, Nat.lt_of_lt_of_le hb u.size, fun i hi => (h i hi).up u⟩
theorem SigL.get {w : World} {v : Value} {ss : List Sg} (h : SigL w v ss) : ∃ a c, v = .slice a ss.length c ∧ ss.length ≤ c ∧ ∀ i (hi : i < ss.length), ∃ b off, a = some ⟨b, off, none⟩ ∧ SgAt w b (off + i * 3) ss[i] := by
  obtain ⟨a, c, e, hc, h⟩ := h
  refine ⟨a, c, e, hc, fun i hi => ?_⟩
  rcases h with rfl | ⟨b, off, e2, hb, h⟩
  · cases hi
  · exact ⟨b, off, e2, h i hi⟩
theorem sumL_take : ∀ (ss : List Sg) (i : Nat) (h : i < ss.length), sumL (ss.take (i + 1)) = sumL (ss.take i) + sgLen ss[i]
  | s :: r, 0, _ => by simp [sumL]
  | s :: r, i + 1, h => by
    have := sumL_take r i (by simpa using h)
    simp only [List.take_succ_cons, sumL, List.getElem_cons_succ]
    omega
def Bds (ss : List Sg) : Prop := ∀ s, s ∈ ss → s.name.size ≤ 140737488355328 ∧ s.bytes.length ≤ 140737488355328
theorem sgLen_bd {s : Sg} (h : s.name.size ≤ 140737488355328 ∧ s.bytes.length ≤ 140737488355328) : sgLen s ≤ 562949953421312 := by unfold sgLen; omega
theorem sumL_bd : ∀ (ss : List Sg), Bds ss → sumL ss ≤ ss.length * 562949953421312
  | [], _ => by simp [sumL]
  | s :: r, h => by
    have h1 := sumL_bd r (fun x hx => h x (by simp [hx]))
    have h2 := sgLen_bd (h s (by simp))
    simp only [sumL, List.length_cons]
    omega
theorem w64 {x : Int} (h : -9223372036854775808 ≤ x ∧ x < 9223372036854775808) : wrap64 x = x := by
  unfold wrap64
  omega
theorem nl_step (T S n b : Nat) (hT : T ≤ 140737488355328) (hS : S ≤ 9007199254740992) (hn : n ≤ 140737488355328) (hb : b ≤ 140737488355328) :
    wrap64 ((T : Int) + 1 + (S : Int) + wrap64 (wrap64 (wrap64 (wrap64 (4 + (n : Int)) + 1) + wrap64 (wrap64 ((wrap64 (wrap64 (4 + (b : Int)) + 2)).tdiv 3) * 4)) + 1)) = ((T + 1 + (S + (4 + n + 1 + (4 + b + 2) / 3 * 4 + 1)) : Nat) : Int) := by
  have e : (4 + (b : Int) + 2).tdiv 3 = (((4 + b + 2) / 3 : Nat) : Int) := by
    rw [show (4 + (b : Int) + 2) = ((4 + b + 2 : Nat) : Int) by omega]; rfl
  rw [w64 (x := 4 + (n : Int)) (by omega), w64 (x := 4 + (n : Int) + 1) (by omega), w64 (x := 4 + (b : Int)) (by omega), w64 (x := 4 + (b : Int) + 2) (by omega), e]
  rw [w64 (x := (((4 + b + 2) / 3 : Nat) : Int)) (by omega), w64 (x := (((4 + b + 2) / 3 : Nat) : Int) * 4) (by omega)]
  rw [w64 (x := 4 + (n : Int) + 1 + (((4 + b + 2) / 3 : Nat) : Int) * 4) (by omega), w64 (x := 4 + (n : Int) + 1 + (((4 + b + 2) / 3 : Nat) : Int) * 4 + 1) (by omega), w64 (by omega)]
  omega
set_option maxRecDepth 100000 in
set_option maxHeartbeats 1000000 in
theorem noteLength_walk (t : ByteArray) (ht : t.size ≤ 140737488355328) (v : Value) (ss : List Sg) (w : World) (hS : SigL w v ss) (h16 : ss.length ≤ 16) (hb : Bds ss) :
    Calls Tryd.prog 56 #[.string t, v] w fun e w' => e = .returned (.int .i64 (nlen t ss : Int)) ∧ Up w w' := by
  obtain ⟨a, c, rfl, hc, hg⟩ := hS.get
  have HG := Hid.of hg
  have HB := Hid.of hb
  clear hS hg hb
  have f0 : IntKind.i64.wrap ((t.size : Int) + 1) = ((t.size + 1 : Nat) : Int) := by
    simp only [IntKind.wrap, IntKind.signed, IntKind.bits]; simp; omega
  go_enter Tryd.func56, Tryd.ntmps56
  go_wp2
  go_loopw [5, 14] (fun v5 v14 wr => ∃ i : Nat, v14 = .int .i64 (i : Int) ∧ v5 = .int .i64 ((t.size + 1 + sumL (ss.take i) : Nat) : Int) ∧ i ≤ ss.length ∧ Hid (Up w wr)) (fun _ v14 _ => ss.length - (intOf v14).toNat)
  case atStart => exact ⟨0, rfl, by simp [sumL], by omega, Up.refl _⟩
  case round =>
    obtain ⟨i, rfl, rfl, hi, hI⟩ := hrel
    by_cases hlt : i < ss.length
    · have hlt' : (i : Int) < (ss.length : Int) := by omega
      obtain ⟨b, off, rfl, a2, n2, c2, k1, k2, k3, k4, _⟩ := HG.out i hlt
      have k1' := hI.out.cell k1
      have k2' := hI.out.cell k2
      have k3' := hI.out.cell k3
      clear k1 k2 k3

      go_wp2
      refine ⟨⟨i + 1, by go_num, ?_, by omega, hI.out.alloc _⟩, by simp [intOf]; omega⟩
      have hm := HB.out ss[i] (List.getElem_mem hlt)
      have hs := sumL_bd (ss.take i) (fun x hx => HB.out x (List.mem_of_mem_take hx))
      rw [List.length_take] at hs
      rw [nl_step t.size (sumL (ss.take i)) ss[i].name.size ss[i].bytes.length ht (by omega) hm.1 hm.2, sumL_take ss i hlt]
      rfl
    · have hlt' : ¬ (i : Int) < (ss.length : Int) := by omega
      obtain rfl : i = ss.length := by omega
      go_wp2
      go_ret
      exact ⟨congrArg (fun z => Ending.returned (Value.int .i64 z)) (show (t.size : Int) + 1 + (sumL ss : Int) = (nlen t ss : Int) by unfold nlen; omega), hI.out⟩
theorem suf_ten7 (l : List UInt8) : Go.Lib.hasSuffix l [10] = decide (l.getLast? = some 10) := by
  unfold Go.Lib.hasSuffix
  rcases List.eq_nil_or_concat l with rfl | ⟨r, x, rfl⟩
  · rfl
  · by_cases h : x = 10
    · subst h; simp [List.isSuffixOf]
    · have : ¬ (10 : UInt8) = x := fun e => h e.symm
      simp [List.isSuffixOf, h, List.isPrefixOf, this]
open Classical in
set_option maxRecDepth 100000 in
theorem isNoteText_walk (t : ByteArray) (ht : t.size ≤ 140737488355328) (w : World) : Calls Tryd.prog 57 #[.string t] w fun e w' => e = .returned (.bool (decide (okT t))) ∧ Up w w' := by
  go_enter Tryd.func57, Tryd.ntmps57
  go_wp2_with fail
  refine (Any.strings_HasSuffix Tryd.lays100 t ⟨#[10]⟩ w (by omega)).mono ?_
  rintro e w' ⟨rfl, hw⟩
  obtain rfl := hw.symm
  rw [show (⟨#[10]⟩ : ByteArray).data.toList = [10] from rfl, suf_ten7]
  by_cases h : t.data.toList.getLast? = some 10
  · rw [decide_eq_true h]
    dsimp only
    go_wp2_with fail
    refine (Plain_walk t _).mono ?_
    rintro e w' ⟨rfl, u⟩
    by_cases hp : plainR t = 0
    · rw [hp]
      have HU := Hid.of u
      clear u
      dsimp only
      go_wp2
      go_ret
      exact ⟨by simp [okT, h, hp], HU.out⟩
    · have hp' : (plainR t == 0) = false := by simpa using hp
      have HU := Hid.of u
      clear u
      dsimp only
      go_wp2
      go_ret
      exact ⟨by simp [okT, hp], HU.out⟩
  · rw [decide_eq_false h]
    dsimp only
    go_wp2
    go_ret
    exact ⟨by rw [decide_eq_false (fun hk : okT t => h hk.1)]; rfl, Up.refl _⟩
/-- a signature as a value -/
def sgV (s : Sg) (a : Option Addr) (c : Nat) : Value := .agg #[.string s.name, .int .u32 (s.hash : Int), .slice a s.bytes.length c]
open Classical in
set_option maxRecDepth 100000 in
theorem illFormed_walk (s : Sg) (a : Option Addr) (c : Nat) (w : World) (hW : Go.Lib.WhiteTab 3 w) : Calls Tryd.prog 59 #[.agg #[.string s.name, .int .u32 (s.hash : Int), .slice a s.bytes.length c]] w fun e w' => e = .returned (.bool (decide (¬ okS s))) ∧ Up w w' := by
  have HW := Hid.of hW
  clear hW
  go_enter Tryd.func59, Tryd.ntmps59
  go_wp2_with fail
  refine (CheckName_walk s.name _ (WhiteTab_up HW.out ((Up.refl w).alloc _))).mono ?_
  rintro e w' ⟨rfl, u⟩
  have k3 : w'.cell? ⟨w.heap.size, 2, none⟩ = some (.slice a s.bytes.length c) := u.cell (by rw [World.cell?_alloc_at _ _ _ _ rfl]; rfl)
  have HU := Hid.of (((Up.refl w).alloc _).trans u)
  clear u
  rcases name_val s.name with hn | hn
  · rw [hn]
    by_cases hb : s.bytes.length = 0
    · have hb' : ((s.bytes.length : Int) == 0) = true := by simpa using hb
      dsimp only
      go_wp2
      go_ret
      exact ⟨by simp [okS, hn, List.length_eq_zero_iff.1 hb], HU.out⟩
    · have hb' : ((s.bytes.length : Int) == 0) = false := by simpa using hb
      dsimp only
      go_wp2
      go_ret
      exact ⟨by simp [okS, hn]; intro e; rw [e] at hb; exact hb rfl, HU.out⟩
  · rw [hn]
    dsimp only
    go_wp2
    go_ret
    exact ⟨by simp [okS, hn], HU.out⟩
def AllOk (ss : List Sg) : Prop := ∀ s, s ∈ ss → okS s
open Classical in
set_option maxRecDepth 100000 in
set_option maxHeartbeats 1000000 in
theorem IndexFunc_walk (v : Value) (ss : List Sg) (w : World) (hS : SigL w v ss) (hl : ss.length ≤ 16) (hW : Go.Lib.WhiteTab 3 w) :
    Calls Tryd.prog 82 #[v, .func (.func 59) #[] #[]] w fun e w' => ∃ k : Int, e = .returned (.int .i64 k) ∧ (0 ≤ k ↔ ¬ AllOk ss) ∧ Up w w' := by
  obtain ⟨a, c, rfl, hc, hg⟩ := hS.get
  have HG := Hid.of hg
  have HW := Hid.of hW
  clear hS hg hW
  go_enter Tryd.func82, Tryd.ntmps82
  go_wp2
  go_loopw [8] (fun v8 wr => ∃ i : Nat, v8 = .int .i64 (i : Int) ∧ i ≤ ss.length ∧ Hid (Up w wr ∧ ∀ s, s ∈ ss.take i → okS s)) (fun v8 _ => ss.length - (intOf v8).toNat)
  case atStart => exact ⟨0, rfl, by omega, Up.refl _, by simp⟩
  case round =>
    obtain ⟨i, rfl, hi, hI⟩ := hrel
    by_cases hlt : i < ss.length
    · have hlt' : (i : Int) < (ss.length : Int) := by omega
      obtain ⟨b, off, rfl, a2, n2, c2, k1, k2, k3, rfl, _⟩ := HG.out i hlt
      have k1' := hI.out.1.cell k1
      have k2' := hI.out.1.cell k2
      have k3' := hI.out.1.cell k3
      clear k1 k2 k3
      go_wp2_with fail
      refine (illFormed_walk ss[i] a2 c2 wr (WhiteTab_up HW.out hI.out.1)).mono ?_
      rintro e w2 ⟨rfl, u⟩
      by_cases hk : okS ss[i]
      · rw [decide_eq_false (fun h => h hk)]
        have HN := Hid.of (show Up w w2 ∧ ∀ s, s ∈ ss.take (i + 1) → okS s from ⟨hI.out.1.trans u, fun s hs => by
          rw [List.take_succ_eq_append_getElem hlt, List.mem_append, List.mem_singleton] at hs
          rcases hs with hs | rfl
          · exact hI.out.2 s hs
          · exact hk⟩)
        clear k1' k2' k3' u
        dsimp only
        go_wp2
        go_roundw
        case rel => exact ⟨i + 1, by go_num, by omega, HN⟩
        case measure => simp [intOf]; omega
      · rw [decide_eq_true hk]
        have HN := Hid.of (show Up w w2 ∧ ¬ AllOk ss from ⟨hI.out.1.trans u, fun h => hk (h _ (List.getElem_mem hlt))⟩)
        clear k1' k2' k3' u
        dsimp only
        go_wp2
        go_ret
        exact ⟨_, rfl, ⟨fun _ => HN.out.2, fun _ => by omega⟩, HN.out.1⟩
    · have hlt' : ¬ (i : Int) < (ss.length : Int) := by omega
      obtain rfl : i = ss.length := by omega
      go_wp2
      go_ret
      have ha := hI.out.2
      rw [List.take_length] at ha
      exact ⟨_, rfl, ⟨fun h => absurd h (by decide), fun h => absurd ha h⟩, hI.out.1⟩
open Classical in
set_option maxRecDepth 100000 in
theorem ContainsFunc_walk (v : Value) (ss : List Sg) (w : World) (hS : SigL w v ss) (hl : ss.length ≤ 16) (hW : Go.Lib.WhiteTab 3 w) :
    Calls Tryd.prog 58 #[v, .func (.func 59) #[] #[]] w fun e w' => e = .returned (.bool (decide (¬ AllOk ss))) ∧ Up w w' := by
  obtain ⟨a, c, rfl, hc, hg⟩ := hS.get
  clear hg
  have HS := Hid.of hS
  have HW := Hid.of hW
  clear hS hW
  go_enter Tryd.func58, Tryd.ntmps58
  go_wp2_with fail
  refine (IndexFunc_walk _ ss w HS.out hl HW.out).mono ?_
  rintro e w2 ⟨k, rfl, hk, u⟩
  have HU := Hid.of u
  clear u
  have HK := Hid.of (show decide (¬ AllOk ss) = decide (0 ≤ k) from by rw [decide_eq_decide]; exact hk.symm)
  clear hk
  dsimp only
  go_wp2
  go_ret
  exact ⟨by rw [HK.out]; rfl, HU.out⟩
set_option maxRecDepth 100000 in
theorem hashBytes_walk (h : Nat) (hh : h < 4294967296) (w : World) : Calls Tryd.prog 83 #[.int .u32 (h : Int)] w fun e w' => ∃ v, e = .returned v ∧ Own w' w.heap.size v (hb4 h) ∧ Up w w' := by
  go_enter Tryd.func83, Tryd.ntmps83
  go_wp2
  go_ret
  refine ⟨_, rfl, ?_, (Up.refl w).alloc _⟩
  have e : #[Value.int IntKind.u8 ((h : Int) / 16777216), Value.int IntKind.u8 ((h : Int) / 65536 % 256), Value.int IntKind.u8 ((h : Int) / 256 % 256), Value.int IntKind.u8 ((h : Int) % 256)] = (cb (hb4 h)).toArray := by
    have e1 : (h : Int) / 16777216 = ((UInt8.ofNat (h / 16777216)).toNat : Int) := by rw [UInt8.toNat_ofNat']; omega
    have e2 : (h : Int) / 65536 % 256 = ((UInt8.ofNat (h / 65536)).toNat : Int) := by rw [UInt8.toNat_ofNat']; omega
    have e3 : (h : Int) / 256 % 256 = ((UInt8.ofNat (h / 256)).toNat : Int) := by rw [UInt8.toNat_ofNat']; omega
    have e4 : (h : Int) % 256 = ((UInt8.ofNat h).toNat : Int) := by rw [UInt8.toNat_ofNat']; omega
    rw [e1, e2, e3, e4]
    rfl
  rw [e]
  have := World.ownsRow_lit (base := w.heap.size) (e := 5) (size := 1) w (cb (hb4 h)).toArray 4 (Nat.le_refl _) (by unfold maxLen; omega) (by simp [cb, hb4])
  simpa [Own, hb4, cb] using this
end
section
open Go.RowKit TextNum
/-- a list of one's own whose block may bear a mark behind its room (a text made to bytes) -/
def OwnM (w : World) (B : Nat) (v : Value) (l : List UInt8) : Prop := ∃ g cap cur fr, v = .slice (some ⟨g, 0, none⟩) l.length cap ∧ B ≤ g ∧ w.heap[g]? = some (.cells cur 5 fr) ∧ (fr.2 = 0 ∨ cap ≤ fr.1) ∧ l.length ≤ cap ∧ cap ≤ maxLen ∧ cur.size = cap ∧ cur.toList.take l.length = cb l
theorem OwnM.up {w w' : World} {B : Nat} {v : Value} {l : List UInt8} (h : OwnM w B v l) (k : Up w w') : OwnM w' B v l := by
  obtain ⟨g, cap, cur, fr, rfl, hB, hg, r⟩ := h
  refine ⟨g, cap, cur, fr, rfl, hB, ?_, r⟩
  rw [k.block g (Array.getElem?_eq_some_iff.1 hg).1]; exact hg
theorem OwnM.base {w : World} {B B' : Nat} {v : Value} {l : List UInt8} (h : OwnM w B v l) (hB : B' ≤ B) : OwnM w B' v l := by
  obtain ⟨g, cap, cur, fr, e, hb, r⟩ := h
  exact ⟨g, cap, cur, fr, e, Nat.le_trans hB hb, r⟩
theorem OwnM.cells {w : World} {B : Nat} {g cap : Nat} {l : List UInt8} (h : OwnM w B (.slice (some ⟨g, 0, none⟩) l.length cap) l) : g < w.heap.size ∧ ∀ j u, (cb l)[j]? = some u → w.cell? ⟨g, j, none⟩ = some u := by
  obtain ⟨g', cap', cur, fr, e, hB, hg, _, _, _, _, ht⟩ := h
  injection e with e1 _ _
  injection e1 with e1
  injection e1 with e1 _ _
  subst e1
  refine ⟨(Array.getElem?_eq_some_iff.1 hg).1, fun j u hu => ?_⟩
  rw [cell_of_row w g j cur _ fr hg]
  rw [← ht, List.getElem?_take] at hu
  split at hu
  · simpa using hu
  · cases hu
theorem OwnM.sl {w : World} {B : Nat} {v : Value} {l : List UInt8} (h : OwnM w B v l) : Sl w v l := by
  have h0 := h
  obtain ⟨g, cap, cur, fr, rfl, hB, hg, _, hc, _⟩ := h
  obtain ⟨h1, h2⟩ := h0.cells
  refine ⟨_, cap, rfl, hc, .inr ⟨g, 0, rfl, h1, fun i hi => ?_⟩⟩
  rw [Nat.zero_add]
  exact h2 i _ (cb_get hi)
theorem run_storeCells_mk (P : Program) (g o : Nat) (t : TypeId) (fz : Nat × Nat) : ∀ (vs : List Value) (i : Nat) (cur : Array Value) (w : World), w.heap[g]? = some (.cells cur t fz) → (fz.2 = 0 ∨ cur.size ≤ fz.1) → o + i + vs.length ≤ cur.size → (∀ v ∈ vs, v.oneCell' = true) →
    (storeCells ⟨g, o, none⟩ vs i).run P w = .ok () (w.setRow g (cur.toList.take (o + i) ++ vs ++ cur.toList.drop (o + i + vs.length)).toArray)
  | [], i, cur, w, hg, _, _, _ => by
    simp only [storeCells, List.append_nil, List.length_nil, Nat.add_zero, List.take_append_drop, Array.toArray_toList]
    rw [setRow_self w g cur t fz hg]
    rfl
  | v :: rest, i, cur, w, hg, hfz, hl, h1 => by
    have hi : o + i < cur.size := by simp at hl; omega
    have hadd : (⟨g, o, none⟩ : Addr).add i = ⟨g, o + i, none⟩ := by unfold Addr.add; split <;> simp_all
    have hcell : w.cell? ⟨g, o + i, none⟩ = some cur[o + i] := by simp [World.cell?, hg, hi]
    have hfro : w.frozen? ⟨g, o + i, none⟩ = false := by
      obtain ⟨lo, hi'⟩ := fz
      simp only [World.frozen?, hg, Bool.and_eq_false_iff, decide_eq_false_iff_not]
      simp only at hfz
      omega
    have hst : (store ((⟨g, o, none⟩ : Addr).add i) v).run P w = .ok () (w.setRow g (cur.setIfInBounds (o + i) v)) := by
      rw [hadd, run_store P w _ v _ (h1 v (by simp)), hcell]
      simp [hfro, setCell_eq_setRow w g (o + i) cur t fz v hg]
    have ih := run_storeCells_mk P g o t fz rest (i + 1) (cur.setIfInBounds (o + i) v) (w.setRow g (cur.setIfInBounds (o + i) v)) (setRow_heap w g cur _ t _ hg) (by simpa using hfz) (by simp at hl ⊢; omega) (fun x hx => h1 x (by simp [hx]))
    simp only [storeCells, Sem.run_bind, hst, Result.andThen_ok, ih, setRow_setRow]
    congr 3
    have e := list_seg_step cur.toList (o + i) v rest (by simp at hl ⊢; omega)
    simpa [Array.toList_setIfInBounds, Nat.add_assoc] using e
theorem run_app_strM {w : World} {B : Nat} {v : Value} {l : List UInt8} (m : List UInt8) (ty : TypeId) (hown : OwnM w B v l) (hn : l.length + m.length ≤ 140737488355328) (hB : B ≤ w.heap.size) :
    ∃ v' w', (Builtin.append_ #[22, 9] ty #[v, .string ⟨m.toArray⟩]).run Tryd.prog w = .ok v' w' ∧ OwnM w' B v' (l ++ m) ∧ Below B w w' := by
  obtain ⟨i, hi, hz, hsize, hby⟩ := info_parts Tryd.info8
  have ht : Tryd.prog.underlying 22 = some (.slice 5) := Tryd.underlying22
  have hs0 : Src Tryd.prog 1 9 (.string ⟨m.toArray⟩) (⟨m.toArray⟩ : ByteArray).size (byteCells ⟨m.toArray⟩) w := Src.ofString w Tryd.underlying9 ⟨m.toArray⟩
  rw [byteCells_cb, str_size] at hs0
  have hs : Src Tryd.prog i.size 9 (.string ⟨m.toArray⟩) m.length (cb m) w := by rw [hsize]; exact hs0
  have hlen : (cb l ++ cb m).length = l.length + m.length := by simp [cb]
  have h0 := hown
  obtain ⟨g, cap, cur, fr, rfl, hbg, hg, hfr, hnc, hcm, hcs, htake⟩ := hown
  by_cases hroom : l.length + m.length ≤ cap
  · have hfit : l.length + (cb m).length ≤ cur.size := by rw [hcs, cb_length]; omega
    have hst := run_storeCells_mk Tryd.prog g (l.length * i.size) 5 fr (cb m) 0 cur w hg (by rw [hcs]; exact hfr) (by rw [hsize]; simpa using hfit) (cb_one m)
    have hk : Tryd.prog.underlying 9 = some .string := Tryd.underlying9
    simp only [Nat.add_zero] at hst
    have hr : (Builtin.append_ #[22, 9] ty #[.slice (some ⟨g, 0, none⟩) l.length cap, .string ⟨m.toArray⟩]).run Tryd.prog w =
        .ok (.slice (some ⟨g, 0, none⟩) (l.length + m.length) cap) (w.setRow g (cur.toList.take (l.length * i.size) ++ cb m ++ cur.toList.drop (l.length * i.size + (cb m).length)).toArray) := by
      simp [Builtin.append_, run_underlying ht, run_underlying hk, sizeOf, typeInfo, hi, hs.len, hroom, hs.cells, Addr.add_lit, hst]
    refine ⟨_, _, hr, ⟨g, cap, _, fr, by rw [List.length_append], hbg, setRow_heap w g cur _ 5 _ hg, hfr, by rw [List.length_append]; exact hroom, hcm, ?_, ?_⟩, ⟨rfl, rfl, rfl, by simp, fun k hk => setRow_other w g k _ (by omega)⟩⟩
    · simp only [List.size_toArray, List.length_append, List.length_take, List.length_drop, Array.length_toList, cb_length, hsize]
      omega
    · rw [hsize, Nat.mul_one, htake, cb_append, List.length_append, ← hlen]
      exact List.take_left
  · obtain ⟨_, holds⟩ := h0.cells
    have hold := run_firstCells_some (P := Tryd.prog) w.drew i.size l.length ⟨g, 0, none⟩ l.length cap (cb l) (by rw [hsize, cb_length, Nat.mul_one]) (fun j u hj => by rw [add_plain, Nat.zero_add]; exact (World.cell?_drew _ _).trans (holds j u hj))
    have hr := run_append_grow_src (P := Tryd.prog) w 22 9 ty 5 i _ ht hi hz (some ⟨g, 0, none⟩) l.length cap (cb l) hold _ m.length (cb m) hs (by omega) (by omega) (growslice_fits (by omega) (by rw [hby]; omega))
    have hge := grownCap_ge w (l.length + m.length) cap 5
    have hcm2 : grownCap w (l.length + m.length) cap 5 ≤ maxLen := grownCap_le_maxLen w _ cap _ (by unfold maxLen; omega)
    refine ⟨_, _, hr, ⟨w.heap.size, _, _, (0, 0), by rw [List.length_append], hB, heap_alloc_new w.drew _, .inl rfl, by rw [List.length_append]; exact hge, hcm2, ?_, ?_⟩, Below.alloc (Below.drew (Below.refl B w)) hB _⟩
    · simp only [Array.size_append, List.size_toArray, size_zeroCells, hlen]
      simp [Value.cells]
      omega
    · simp only [Array.toList_append, cb_append, List.length_append]
      rw [← hlen]
      exact List.take_left
theorem wpList_appsM {ops : Array Oper} {rest : List Oper} {o : Oper} {a : Act} {w : World} {Q : Exit → Act → World → Prop} (hgd : o.guard = none) (s x : Operand)
    (ho : o.op = .call { callee := .builtin .append, args := #[s, x], argTypes := #[22, 9] }) (B : Nat) (v : Value) (l m : List UInt8) (hs : a.eval s = v) (hown : OwnM w B v l)
    (hx : a.eval x = .string ⟨m.toArray⟩) (hn : l.length + m.length ≤ 140737488355328) (hB : B ≤ w.heap.size)
    (h : ∀ v' w', OwnM w' B v' (l ++ m) → Below B w w' → wpList Tryd.prog ops Q rest (a.put o.dst v') w') : wpList Tryd.prog ops Q (o :: rest) a w := by
  refine wpList_plain hgd fun K hK => ?_
  obtain ⟨v', w', hr, h2, h3⟩ := run_app_strM m o.type hown hn hB
  unfold Oper.wp execOp
  simp only [ho, resolve, invoke, builtin, Sem.run_bind, Sem.run_pure, Result.andThen_ok, List.map_toArray, List.map_cons, List.map_nil, hs, hx, hr]
  exact hK _ _ (h v' w' h2 h3)
/-- a text made to bytes -/
theorem conv_str (w : World) (t : ByteArray) (ht : t.size ≤ 140737488355328) : ∃ v w', (convert 9 22 (.string t)).run Tryd.prog w = .ok v w' ∧ OwnM w' w.heap.size v t.data.toList ∧ Up w w' := by
  have hge := grownCap_ge w t.size 0 5
  have hcm : grownCap w t.size 0 5 ≤ maxLen := grownCap_le_maxLen w _ 0 _ (by unfold maxLen; omega)
  have hc : (Go.Lib.bytesCells w 5 t).size = grownCap w t.size 0 5 := by
    simp only [Go.Lib.bytesCells, Array.size_append, Array.size_map, Array.size_replicate]
    have : t.data.size = t.size := rfl
    omega
  refine ⟨_, _, Go.Lib.run_convert_string_bytes (P := Tryd.prog) w 9 22 5 t Tryd.underlying9 Tryd.underlying22 Tryd.underlying5, ⟨w.heap.size, _, Go.Lib.bytesCells w 5 t, _, by rw [← Go.Lib.size_eq], Nat.le_refl _, Go.Lib.bytesWorld_at_new w 5 t, .inr (by rw [hc]; exact Nat.le_refl _), by rw [← Go.Lib.size_eq]; exact hge, hcm, hc, ?_⟩, ⟨rfl, rfl, rfl, by rw [Go.Lib.bytesWorld_size]; omega, fun j hj => Go.Lib.bytesWorld_at_old w 5 t j hj⟩⟩
  simp only [Go.Lib.bytesCells, Array.toList_append, Array.toList_map]
  have : (t.data.toList.map fun b => Value.int .u8 (b.toNat : Int)) = cb t.data.toList := rfl
  rw [this, show t.data.toList.length = (cb t.data.toList).length by rw [cb_length]]
  exact List.take_left
theorem wpList_conv {ops : Array Oper} {rest : List Oper} {o : Oper} {a : Act} {w : World} {Q : Exit → Act → World → Prop} (hgd : o.guard = none) (s : Operand)
    (ho : o.op = .convert 9 22 s) (t : ByteArray) (ht : t.size ≤ 140737488355328) (hs : a.eval s = .string t)
    (h : ∀ v' w', OwnM w' w.heap.size v' t.data.toList → Up w w' → wpList Tryd.prog ops Q rest (a.put o.dst v') w') : wpList Tryd.prog ops Q (o :: rest) a w := by
  refine wpList_plain hgd fun K hK => ?_
  obtain ⟨v', w', hr, h2, h3⟩ := conv_str w t ht
  unfold Oper.wp execOp
  simp only [ho, Sem.run_bind, Sem.run_pure, Result.andThen_ok, hs, hr]
  exact hK _ _ (h v' w' h2 h3)
end
section
open Go.RowKit TextNum
theorem Sl.by7 {w w' : World} {v : Value} {l : List UInt8} {row : Option Nat} (h : Sl w v l) (hg : w.grownBy w' row) (hr : ∀ r, row = some r → v.ownBlock ≠ some r) : Sl w' v l := by
  obtain ⟨a, c, rfl, hc, h⟩ := h
  refine ⟨a, c, rfl, hc, ?_⟩
  rcases h with h | ⟨b, off, rfl, hb, h⟩
  · exact .inl h
  · have e := hg.block b hb (fun e => hr b e.symm rfl)
    exact .inr ⟨b, off, rfl, Nat.lt_of_lt_of_le hb hg.size, fun i hi => by rw [World.cell?_of_block e]; exact h i hi⟩
/-- a signature and where its bytes stand -/
def qc (q : Sg × Option Addr × Nat) : List Value := [.string q.1.name, .int .u32 (q.1.hash : Int), .slice q.2.1 q.1.bytes.length q.2.2]
def qv (q : Sg × Option Addr × Nat) : Value := .slice q.2.1 q.1.bytes.length q.2.2
/-- a list of signatures of one's own -/
def OwnG (w : World) (B : Nat) (e : TypeId) (v : Value) (qs : List (Sg × Option Addr × Nat)) : Prop :=
  w.ownsRow B e 3 v qs.length (qs.flatMap qc) ∧ ∀ q, q ∈ qs → Sl w (qv q) q.1.bytes ∧ ∀ b, (qv q).ownBlock = some b → b < w.heap.size ∧ v.ownBlock ≠ some b
theorem qc_len (qs : List (Sg × Option Addr × Nat)) : (qs.flatMap qc).length = qs.length * 3 := by
  induction qs with
  | nil => rfl
  | cons q r ih => rw [List.flatMap_cons, List.length_append, ih]; simp only [qc, List.length_cons, List.length_nil]; omega
theorem qc_one (q : Sg × Option Addr × Nat) : ∀ u, u ∈ qc q → u.oneCell' = true := by
  intro v hv
  simp only [qc, List.mem_cons, List.not_mem_nil, or_false] at hv
  rcases hv with rfl | rfl | rfl <;> rfl
theorem qc_get : ∀ (qs : List (Sg × Option Addr × Nat)) (i : Nat) (h : i < qs.length) (j : Nat) (_ : j < 3), (qs.flatMap qc)[i * 3 + j]? = (qc qs[i])[j]?
  | q :: r, 0, _, j, hj => by
    rw [List.flatMap_cons, List.getElem?_append_left (by simp only [qc, List.length_cons, List.length_nil]; omega)]
    simp
  | q :: r, i + 1, h, j, hj => by
    rw [List.flatMap_cons, List.getElem?_append_right (by simp only [qc, List.length_cons, List.length_nil]; omega)]
    have e : (i + 1) * 3 + j - (qc q).length = i * 3 + j := by simp only [qc, List.length_cons, List.length_nil]; omega
    rw [e, qc_get r i (by simpa using h) j hj]
    simp
theorem OwnG.up {w w' : World} {B : Nat} {e : TypeId} {v : Value} {qs : List (Sg × Option Addr × Nat)} (h : OwnG w B e v qs) (u : Up w w') : OwnG w' B e v qs := by
  refine ⟨⟨h.1.1, ?_⟩, fun q hq => ⟨(h.2 q hq).1.up u, fun b hb => ⟨Nat.lt_of_lt_of_le ((h.2 q hq).2 b hb).1 u.size, ((h.2 q hq).2 b hb).2⟩⟩⟩
  rcases h.1.2 with h | ⟨g, cap, cur, e, hb, hg, r⟩
  · exact .inl h
  · refine .inr ⟨g, cap, cur, e, hb, ?_, r⟩
    rw [u.block g (Array.getElem?_eq_some_iff.1 hg).1]; exact hg
theorem OwnG.sigL {w : World} {B : Nat} {e : TypeId} {v : Value} {qs : List (Sg × Option Addr × Nat)} (h : OwnG w B e v qs) : SigL w v (qs.map (·.1)) := by
  have h0 := h.1
  rcases h.1.2 with ⟨rfl, hn⟩ | ⟨g, cap, cur, rfl, hb, hg, hnc, _⟩
  · obtain rfl : qs = [] := List.length_eq_zero_iff.1 hn
    exact ⟨none, 0, rfl, Nat.le_refl _, .inl rfl⟩
  · refine ⟨_, cap, by rw [List.length_map], by rw [List.length_map]; exact hnc, .inr ⟨g, 0, rfl, (Array.getElem?_eq_some_iff.1 hg).1, fun i hi => ?_⟩⟩
    have hi' : i < qs.length := by rwa [List.length_map] at hi
    have hc : ∀ j, j < 3 → ∀ u, (qc qs[i])[j]? = some u → w.cell? ⟨g, 0 + i * 3 + j, none⟩ = some u := fun j hj u hu => by
      have := World.ownsRow.cells h0 (g := g) rfl (i * 3 + j) u (by rw [qc_get qs i hi' j hj]; exact hu)
      rw [add_plain] at this
      rw [← this]
      congr 2
      omega
    rw [List.getElem_map]
    refine ⟨qs[i].2.1, qs[i].1.bytes.length, qs[i].2.2, ?_, ?_, ?_, rfl, (h.2 qs[i] (List.getElem_mem hi')).1⟩
    · exact hc 0 (by decide) _ rfl
    · exact hc 1 (by decide) _ rfl
    · exact hc 2 (by decide) _ rfl
/-- a type of signatures -/
def SgT (t e : TypeId) : Prop := Tryd.prog.underlying t = some (.slice e) ∧ ∃ i z, Tryd.prog.info? e = some i ∧ i.zero = some z ∧ i.size = 3 ∧ i.bytes = 48 ∧ z.cells.size = 3
theorem sgT_of {t e : TypeId} (ht : Tryd.prog.underlying t = some (.slice e)) (h : (Tryd.prog.info? e).map (fun i => (i.zero.map (fun z => z.cells.size), i.size, i.bytes)) = some (some 3, 3, 48)) : SgT t e := by
  refine ⟨ht, ?_⟩
  cases hi : Tryd.prog.info? e with
  | none => rw [hi] at h; simp at h
  | some i =>
    rw [hi] at h
    simp only [Option.map_some, Option.some.injEq, Prod.mk.injEq] at h
    obtain ⟨h1, h2, h3⟩ := h
    cases hz : i.zero with
    | none => rw [hz] at h1; simp at h1
    | some z => rw [hz] at h1; simp only [Option.map_some, Option.some.injEq] at h1; exact ⟨i, z, rfl, hz, h2, h3, h1⟩
theorem sgT1 : SgT 39 42 := sgT_of Tryd.underlying39 (by kernel_rfl)
theorem sgT2 : SgT 48 101 := sgT_of Tryd.underlying48 (by kernel_rfl)
theorem run_app_sg {w : World} {B : Nat} {t e ty : TypeId} (hT : SgT t e) {v : Value} {qs : List (Sg × Option Addr × Nat)} (hown : OwnG w B e v qs) (q : Sg × Option Addr × Nat) (ad : Addr) (c : Nat) (hu : ∀ j u, (qc q)[j]? = some u → w.cell? (ad.add j) = some u)
    (hq : Sl w (qv q) q.1.bytes) (hqb : ∀ b, (qv q).ownBlock = some b → b < w.heap.size ∧ v.ownBlock ≠ some b) (hn : qs.length < 1099511627776) (hB : B ≤ w.heap.size) :
    ∃ v' w', (Builtin.append_ #[t, t] ty #[v, .slice (some ad) 1 c]).run Tryd.prog w = .ok v' w' ∧ OwnG w' B e v' (qs ++ [q]) ∧ Below B w w' ∧ w.grownBy w' v.ownBlock := by
  obtain ⟨ht, i, z, hi, hz, hsize, hby, hzs⟩ := hT
  obtain ⟨hrow, hall⟩ := hown
  have h63 : qs.length + 1 ≤ maxLen := by unfold maxLen; omega
  have hul : (qc q).length = 3 := rfl
  obtain ⟨v', w', hr, ho, hg, hiff⟩ := run_append_own (P := Tryd.prog) w B t ty e i z 3 48 ht hi hz hsize hby hzs (by decide) v qs.length (qs.flatMap qc) hrow ad 1 c (qc q) (by rw [hul]) hu (qc_one q) h63 (by omega) hB
  have hv : ∀ g, v'.ownBlock = some g → v.ownBlock = some g ∨ w.heap.size ≤ g := by
    rcases hrow.2 with ⟨rfl, hn0⟩ | ⟨g, cap, cur, rfl, hbg, hgg, hnc, hcm, hcs, htake⟩
    · have h2 := run_append_nil (P := Tryd.prog) w t ty e i z ht hi hz ad 1 c (qc q) (by rw [hsize, hul]) hu (by decide) (by decide) (by rw [hby]; decide)
      rw [h2] at hr
      injection hr with hv hw
      subst hw hv
      intro g hg
      injection hg with hg
      exact .inr (Nat.le_of_eq hg)
    · by_cases hroom : qs.length + 1 ≤ cap
      · have h2 := run_append_room (P := Tryd.prog) w t ty e i ht hi g qs.length cap cur hgg ad 1 c (qc q) (by rw [hsize, hul]) hu (qc_one q) hroom (by rw [hsize, hcs, hul]; omega)
        rw [h2] at hr
        injection hr with hv hw
        subst hw hv
        exact fun g hg => .inl hg
      · have holds : ∀ j x, (qs.flatMap qc)[j]? = some x → w.cell? ((⟨g, 0, none⟩ : Addr).add j) = some x := World.ownsRow.cells hrow (g := g) rfl
        have h2 := run_append_grow (P := Tryd.prog) w t ty e i z ht hi hz ⟨g, 0, none⟩ qs.length cap (qs.flatMap qc) (by rw [hsize]; exact hrow.1) holds ad 1 c (qc q) (by rw [hsize, hul]) hu (by omega) (by omega) (growslice_fits (by omega) (by rw [hby]; omega))
        rw [h2] at hr
        injection hr with hv hw
        subst hw hv
        intro g hg
        injection hg with hg
        exact .inr (Nat.le_of_eq hg)
  refine ⟨v', w', hr, ⟨?_, ?_⟩, (Below.refl B w).grown hg hB (fun k hk => (World.ownsRow.lt hrow k hk).1), hg⟩
  · rw [List.length_append, List.flatMap_append]
    simpa using ho
  · intro x hx
    have hx' : Sl w (qv x) x.1.bytes ∧ ∀ b, (qv x).ownBlock = some b → b < w.heap.size ∧ v.ownBlock ≠ some b := by
      rcases List.mem_append.1 hx with hx | hx
      · exact hall x hx
      · obtain rfl := List.mem_singleton.1 hx
        exact ⟨hq, hqb⟩
    refine ⟨hx'.1.by7 hg (fun r hr hb => (hx'.2 r hb).2 hr), fun b hb => ⟨Nat.lt_of_lt_of_le (hx'.2 b hb).1 hg.size, fun hb' => ?_⟩⟩
    rcases hv b hb' with h | h
    · exact (hx'.2 b hb).2 h
    · have := (hx'.2 b hb).1
      omega
theorem wpList_appG {ops : Array Oper} {rest : List Oper} {o : Oper} {a : Act} {w : World} {Q : Exit → Act → World → Prop} {t e : TypeId} (hT : SgT t e) (hgd : o.guard = none) (s x : Operand)
    (ho : o.op = .call { callee := .builtin .append, args := #[s, x], argTypes := #[t, t] }) (B : Nat) (v : Value) (qs : List (Sg × Option Addr × Nat)) (q : Sg × Option Addr × Nat) (hs : a.eval s = v) (hown : OwnG w B e v qs)
    (ad : Addr) (c : Nat) (hx : a.eval x = .slice (some ad) 1 c) (hu : ∀ j u, (qc q)[j]? = some u → w.cell? (ad.add j) = some u)
    (hq : Sl w (qv q) q.1.bytes) (hqb : ∀ b, (qv q).ownBlock = some b → b < w.heap.size ∧ v.ownBlock ≠ some b) (hn : qs.length < 1099511627776) (hB : B ≤ w.heap.size)
    (h : ∀ v' w', OwnG w' B e v' (qs ++ [q]) → Below B w w' → wpList Tryd.prog ops Q rest (a.put o.dst v') w') : wpList Tryd.prog ops Q (o :: rest) a w := by
  refine wpList_plain hgd fun K hK => ?_
  obtain ⟨v', w', hr, h2, h3, _⟩ := run_app_sg (ty := o.type) hT hown q ad c hu hq hqb hn hB
  unfold Oper.wp execOp
  simp only [ho, resolve, invoke, builtin, Sem.run_bind, Sem.run_pure, Result.andThen_ok, List.map_toArray, List.map_cons, List.map_nil, hs, hx, hr]
  exact hK _ _ (h v' w' h2 h3)
theorem wp_appG {o : Oper} {a : Act} {w : World} {K : Act → World → Prop} {Q : Exit → Act → World → Prop} {t e : TypeId} (hT : SgT t e) (s x : Operand)
    (ho : o.op = .call { callee := .builtin .append, args := #[s, x], argTypes := #[t, t] }) (B : Nat) (v : Value) (qs : List (Sg × Option Addr × Nat)) (q : Sg × Option Addr × Nat) (hs : a.eval s = v) (hown : OwnG w B e v qs)
    (ad : Addr) (c : Nat) (hx : a.eval x = .slice (some ad) 1 c) (hu : ∀ j u, (qc q)[j]? = some u → w.cell? (ad.add j) = some u)
    (hq : Sl w (qv q) q.1.bytes) (hqb : ∀ b, (qv q).ownBlock = some b → b < w.heap.size ∧ v.ownBlock ≠ some b) (hn : qs.length < 1099511627776) (hB : B ≤ w.heap.size)
    (h : ∀ v' w', OwnG w' B e v' (qs ++ [q]) → Below B w w' → K (a.put o.dst v') w') : Oper.wp Tryd.prog o a w K Q := by
  obtain ⟨v', w', hr, h2, h3, _⟩ := run_app_sg (ty := o.type) hT hown q ad c hu hq hqb hn hB
  unfold Oper.wp execOp
  simp only [ho, resolve, invoke, builtin, Sem.run_bind, Sem.run_pure, Result.andThen_ok, List.map_toArray, List.map_cons, List.map_nil, hs, hx, hr]
  exact h v' w' h2 h3
theorem wpList_appG2 {ops : Array Oper} {rest : List Oper} {o : Oper} {a : Act} {w : World} {Q : Exit → Act → World → Prop} {t e : TypeId} (hT : SgT t e) (hgd : o.guard = none) (s x : Operand)
    (ho : o.op = .call { callee := .builtin .append, args := #[s, x], argTypes := #[t, t] }) (B : Nat) (v : Value) (qs : List (Sg × Option Addr × Nat)) (q : Sg × Option Addr × Nat) (hs : a.eval s = v) (hown : OwnG w B e v qs)
    (ad : Addr) (c : Nat) (hx : a.eval x = .slice (some ad) 1 c) (hu : ∀ j u, (qc q)[j]? = some u → w.cell? (ad.add j) = some u)
    (hq : Sl w (qv q) q.1.bytes) (hqb : ∀ b, (qv q).ownBlock = some b → b < w.heap.size ∧ v.ownBlock ≠ some b) (hn : qs.length < 1099511627776) (hB : B ≤ w.heap.size)
    (h : ∀ v' w', OwnG w' B e v' (qs ++ [q]) → Below B w w' → w.grownBy w' v.ownBlock → wpList Tryd.prog ops Q rest (a.put o.dst v') w') : wpList Tryd.prog ops Q (o :: rest) a w := by
  refine wpList_plain hgd fun K hK => ?_
  obtain ⟨v', w', hr, h2, h3, h4⟩ := run_app_sg (ty := o.type) hT hown q ad c hu hq hqb hn hB
  unfold Oper.wp execOp
  simp only [ho, resolve, invoke, builtin, Sem.run_bind, Sem.run_pure, Result.andThen_ok, List.map_toArray, List.map_cons, List.map_nil, hs, hx, hr]
  exact hK _ _ (h v' w' h2 h3 h4)
theorem wp_appG2 {o : Oper} {a : Act} {w : World} {K : Act → World → Prop} {Q : Exit → Act → World → Prop} {t e : TypeId} (hT : SgT t e) (s x : Operand)
    (ho : o.op = .call { callee := .builtin .append, args := #[s, x], argTypes := #[t, t] }) (B : Nat) (v : Value) (qs : List (Sg × Option Addr × Nat)) (q : Sg × Option Addr × Nat) (hs : a.eval s = v) (hown : OwnG w B e v qs)
    (ad : Addr) (c : Nat) (hx : a.eval x = .slice (some ad) 1 c) (hu : ∀ j u, (qc q)[j]? = some u → w.cell? (ad.add j) = some u)
    (hq : Sl w (qv q) q.1.bytes) (hqb : ∀ b, (qv q).ownBlock = some b → b < w.heap.size ∧ v.ownBlock ≠ some b) (hn : qs.length < 1099511627776) (hB : B ≤ w.heap.size)
    (h : ∀ v' w', OwnG w' B e v' (qs ++ [q]) → Below B w w' → w.grownBy w' v.ownBlock → K (a.put o.dst v') w') : Oper.wp Tryd.prog o a w K Q := by
  obtain ⟨v', w', hr, h2, h3, h4⟩ := run_app_sg (ty := o.type) hT hown q ad c hu hq hqb hn hB
  unfold Oper.wp execOp
  simp only [ho, resolve, invoke, builtin, Sem.run_bind, Sem.run_pure, Result.andThen_ok, List.map_toArray, List.map_cons, List.map_nil, hs, hx, hr]
  exact h v' w' h2 h3 h4
/-- make([]Signature, 0, n) -/
theorem wpList_mkG {ops : Array Oper} {rest : List Oper} {o : Oper} {a : Act} {w : World} {Q : Exit → Act → World → Prop} (hg : o.guard = none) (l c : Operand) (hop : o.op = Op.makeSlice 39 l c)
    (kl kc : IntKind) (C : Int) (n : Nat) (hl : a.eval l = .int kl 0) (hc : a.eval c = .int kc C) (hC : C = (n : Int)) (hn : n ≤ 1099511627776)
    (hK : ∀ w', OwnG w' w.heap.size 42 (.slice (some ⟨w.heap.size, 0, none⟩) 0 n) [] → Up w w' → wpList Tryd.prog ops Q rest (a.put o.dst (.slice (some ⟨w.heap.size, 0, none⟩) 0 n)) w') : wpList Tryd.prog ops Q (o :: rest) a w := by
  obtain ⟨ht, i, z, hi, hz, hsize, hby, hzs⟩ := sgT1
  refine wpList_make_own w hg l c 39 hop w.heap.size 42 i z 3 ht hi hz hsize kl kc C n hl hc hC (by rw [hby]; omega) (by unfold maxLen; omega) (Nat.le_refl _) ?_
  intro w' h1 h2
  exact hK w' ⟨h1, by simp⟩ ((Below.refl _ w).grown h2 (Nat.le_refl _) (fun k hk => by cases hk))
end
section
open Go.RowKit TextNum
/-- a list of one's own in the midst of a block, which may bear a mark behind the list's room -/
def OwnN (w : World) (B : Nat) (v : Value) (l : List UInt8) : Prop := ∃ g off cap cur fr, v = .slice (some ⟨g, off, none⟩) l.length cap ∧ B ≤ g ∧ w.heap[g]? = some (.cells cur 5 fr) ∧ (fr.2 = 0 ∨ off + cap ≤ fr.1) ∧ l.length ≤ cap ∧ cap ≤ maxLen ∧ off + cap ≤ cur.size ∧ ∀ i (h : i < l.length), cur[off + i]? = some (.int .u8 (l[i].toNat : Int))
theorem OwnM.n {w : World} {B : Nat} {v : Value} {l : List UInt8} (h : OwnM w B v l) : OwnN w B v l := by
  obtain ⟨g, cap, cur, fr, e, hB, hg, hfr, hl, hc, hs, ht⟩ := h
  refine ⟨g, 0, cap, cur, fr, e, hB, hg, by rw [Nat.zero_add]; exact hfr, hl, hc, by omega, fun i hi => ?_⟩
  have := cb_get hi
  rw [← ht, List.getElem?_take, if_pos hi] at this
  rw [Nat.zero_add]
  simpa using this
theorem OwnN.sl {w : World} {B : Nat} {v : Value} {l : List UInt8} (h : OwnN w B v l) : Sl w v l := by
  obtain ⟨g, off, cap, cur, fr, rfl, hB, hg, hfr, hl, hc, hs, ht⟩ := h
  exact ⟨_, cap, rfl, hl, .inr ⟨g, off, rfl, (Array.getElem?_eq_some_iff.1 hg).1, fun i hi => by rw [cell_of_row w g (off + i) cur _ fr hg]; exact ht i hi⟩⟩
theorem OwnN.by {w w' : World} {B : Nat} {v : Value} {l : List UInt8} {row : Option Nat} (h : OwnN w B v l) (hg : w.grownBy w' row) (hr : ∀ r, row = some r → v.ownBlock ≠ some r) : OwnN w' B v l := by
  obtain ⟨g, off, cap, cur, fr, rfl, hB, hgg, r⟩ := h
  refine ⟨g, off, cap, cur, fr, rfl, hB, ?_, r⟩
  rw [hg.block g (Array.getElem?_eq_some_iff.1 hgg).1 (fun e => hr g e.symm rfl)]
  exact hgg
theorem OwnN.up {w w' : World} {B : Nat} {v : Value} {l : List UInt8} (h : OwnN w B v l) (k : Up w w') : OwnN w' B v l := by
  obtain ⟨g, off, cap, cur, fr, rfl, hB, hgg, r⟩ := h
  refine ⟨g, off, cap, cur, fr, rfl, hB, ?_, r⟩
  rw [k.block g (Array.getElem?_eq_some_iff.1 hgg).1]
  exact hgg
theorem OwnN.lt {w : World} {B : Nat} {v : Value} {l : List UInt8} (h : OwnN w B v l) : ∀ b, v.ownBlock = some b → B ≤ b ∧ b < w.heap.size := by
  obtain ⟨g, off, cap, cur, fr, rfl, hB, hgg, r⟩ := h
  intro b hb
  injection hb with hb
  subst hb
  exact ⟨hB, (Array.getElem?_eq_some_iff.1 hgg).1⟩
theorem OwnN.len {w : World} {B : Nat} {v : Value} {l : List UInt8} (h : OwnN w B v l) : ∃ g off c, v = .slice (some ⟨g, off, none⟩) l.length c := by
  obtain ⟨g, off, cap, cur, fr, e, _⟩ := h
  exact ⟨g, off, cap, e⟩
theorem grown_set (w : World) (p : Addr) (v : Value) : w.grownBy (w.setCell p v) (some p.block) := ⟨rfl, rfl, rfl, by simp, fun k _ hk => by
  have hne : ¬ p.block = k := fun e => hk (by rw [e])
  simp only [World.setCell]
  split <;> simp [Array.getElem?_modify, hne]⟩
theorem Own.n {w : World} {B : Nat} {v : Value} {l : List UInt8} (h : Own w B v l) (hl : l ≠ []) : OwnN w B v l := by
  have h0 := h
  rcases h.2 with ⟨_, e⟩ | ⟨g, cap, cur, e, hB, hg, hnc, hcm, hs, ht⟩
  · exact absurd (List.length_eq_zero_iff.1 e) hl
  · refine ⟨g, 0, cap, cur, (0, 0), e, hB, hg, .inl rfl, hnc, hcm, by omega, fun i hi => ?_⟩
    have := cb_get hi
    rw [← ht, List.getElem?_take, if_pos (by omega)] at this
    rw [Nat.zero_add]
    simpa using this
theorem OwnN.drop {w : World} {B g off n c k : Nat} {l : List UInt8} (h : OwnN w B (.slice (some ⟨g, off, none⟩) n c) l) (hk : k < l.length) : OwnN w B (sliced (some ⟨g, off, none⟩) k n c 1) (l.drop k) := by
  obtain ⟨g', off', cap', cur, fr, e, hB, hg, hfr, hl, hc, hs, ht⟩ := h
  injection e with e1 e2 e3
  injection e1 with e1
  injection e1 with e1 e4 _
  subst e1 e4 e3 e2
  unfold sliced
  rw [if_neg (by omega), Option.map_some, Nat.mul_one, add_plain]
  refine ⟨g, off + k, c - k, cur, fr, by rw [List.length_drop], hB, hg, by omega, by rw [List.length_drop]; omega, by omega, by omega, fun i hi => ?_⟩
  rw [List.length_drop] at hi
  rw [List.getElem_drop, Nat.add_assoc]
  exact ht (k + i) (by omega)
theorem grown_setC (w : World) (b : Nat) : ∀ (vs : List Value) (o : Nat) (w' : World), w.grownBy w' (some b) → w.grownBy (w'.setCells b o vs) (some b)
  | [], _, _, h => h
  | v :: r, o, w', h => grown_setC w b r (o + 1) (w'.setCell ⟨b, o, none⟩ v) (by
    have k := grown_set w' ⟨b, o, none⟩ v
    exact ⟨k.os.trans h.os, k.tape.trans h.tape, k.output.trans h.output, Nat.le_trans h.size k.size, fun i hi hr => (k.block i (Nat.lt_of_lt_of_le hi h.size) hr).trans (h.block i hi hr)⟩)
theorem OwnN.setC {w : World} {B : Nat} {v : Value} {l : List UInt8} {b o : Nat} {vs : List Value} (h : OwnN w B v l) (hne : v.ownBlock ≠ some b) : OwnN (w.setCells b o vs) B v l :=
  h.by (grown_setC w b vs o w ⟨rfl, rfl, rfl, Nat.le_refl _, fun _ _ _ => rfl⟩) (fun r hr => by injection hr with hr; rw [← hr]; exact hne)
/-- a byte is written -/
theorem OwnN.store {w : World} {B : Nat} {g off n cap : Nat} {l : List UInt8} (h : OwnN w B (.slice (some ⟨g, off, none⟩) n cap) l) (i : Nat) (hi : i < l.length) (x : UInt8) :
    w.cell? ⟨g, off + i, none⟩ = some (.int .u8 (l[i].toNat : Int)) ∧ w.frozen? ⟨g, off + i, none⟩ = false ∧ OwnN (w.setCell ⟨g, off + i, none⟩ (.int .u8 (x.toNat : Int))) B (.slice (some ⟨g, off, none⟩) n cap) (l.set i x) := by
  obtain ⟨g', off', cap', cur, fr, e, hB, hg, hfr, hl, hc, hs, ht⟩ := h
  injection e with e1 e2 e3
  injection e1 with e1
  injection e1 with e1 e4 _
  subst e1 e4 e3 e2
  refine ⟨by rw [cell_of_row w g (off + i) cur _ fr hg]; exact ht i hi, ?_, g, off, cap, cur.setIfInBounds (off + i) (.int .u8 (x.toNat : Int)), fr, by rw [List.length_set], hB, ?_, hfr, by rw [List.length_set]; exact hl, hc, by simpa using hs, fun j hj => ?_⟩
  · obtain ⟨lo, hi'⟩ := fr
    simp only [World.frozen?, hg, Bool.and_eq_false_iff, decide_eq_false_iff_not]
    simp only at hfr
    omega
  · rw [setCell_eq_setRow w g (off + i) cur _ fr _ hg]
    exact setRow_heap w g cur _ _ _ hg
  · rw [List.length_set] at hj
    rw [Array.getElem?_setIfInBounds, List.getElem_set]
    by_cases hij : i = j
    · subst hij
      rw [if_pos rfl, if_pos (by omega), if_pos rfl]
    · rw [if_neg (by omega), if_neg hij]
      exact ht j hj
/-- a byte is appended: the old list reads as it did -/
theorem run_app_N {w : World} {B : Nat} {v : Value} {l : List UInt8} (x : UInt8) (ty : TypeId) (hown : OwnN w B v l) (ad : Addr) (c : Nat) (hx : w.cell? ad = some (.int .u8 (x.toNat : Int))) (hn : l.length < 1099511627776) :
    ∃ v' w', (Builtin.append_ #[22, 22] ty #[v, .slice (some ad) 1 c]).run Tryd.prog w = .ok v' w' ∧ Sl w' v' (l ++ [x]) ∧ Sl w' v l ∧ w.grownBy w' v.ownBlock ∧ ∀ b, v'.ownBlock = some b → (v.ownBlock = some b ∨ w.heap.size ≤ b) ∧ b < w'.heap.size := by
  obtain ⟨i, hi, hz, hsize, hby⟩ := info_parts Tryd.info8
  have ht : Tryd.prog.underlying 22 = some (.slice 5) := Tryd.underlying22
  have hadd0 : ad.add 0 = ad := by obtain ⟨b, o, sp⟩ := ad; unfold Addr.add; split <;> simp_all
  have hs : Src Tryd.prog i.size 22 (.slice (some ad) 1 c) 1 [.int .u8 (x.toNat : Int)] w := Src.ofSlice w ht ad 1 c _ (by rw [hsize]; rfl) (fun j u hj => by
    match j, hj with
    | 0, hj => simp at hj; rw [hadd0, hx, hj]) (fun u hu => by simp at hu; subst hu; rfl)
  have hsl := hown.sl
  obtain ⟨g, off, cap, cur, fr, rfl, hB, hg, hfr, hl, hc, hsz, hcell⟩ := hown
  have hcw : ∀ j (h : j < l.length), w.cell? ⟨g, off + j, none⟩ = some (.int .u8 (l[j].toNat : Int)) := fun j h => by rw [cell_of_row w g (off + j) cur _ fr hg]; exact hcell j h
  have hglt : g < w.heap.size := (Array.getElem?_eq_some_iff.1 hg).1
  by_cases hroom : l.length + 1 ≤ cap
  · have hr := run_append_room_src (P := Tryd.prog) w 22 22 ty 5 i ht hi g off l.length cap _ 1 _ hs hroom (fun j hj => by
      have hj0 : j = 0 := by simpa using hj
      subst hj0
      rw [hsize, Nat.mul_one, Nat.add_zero, cell_of_row w g (off + l.length) cur _ fr hg, Array.getElem?_eq_getElem (by omega)]
      rfl) (fun j hj => by
      have hj0 : j = 0 := by simpa using hj
      subst hj0
      rw [hsize, Nat.mul_one, Nat.add_zero]
      obtain ⟨lo, hi'⟩ := fr
      simp only [World.frozen?, hg, Bool.and_eq_false_iff, decide_eq_false_iff_not]
      simp only at hfr
      omega)
    rw [hsize, Nat.mul_one] at hr
    have hold : ∀ j (h : j < l.length), (w.setCells g (off + l.length) [.int .u8 (x.toNat : Int)]).cell? ⟨g, off + j, none⟩ = some (.int .u8 (l[j].toNat : Int)) := fun j h => (World.cell?_setCells_out _ _ _ _ _ (fun _ _ => .inl (by simp only; omega))).trans (hcw j h)
    have hnew : (w.setCells g (off + l.length) [.int .u8 (x.toNat : Int)]).cell? ⟨g, off + l.length, none⟩ = some (.int .u8 (x.toNat : Int)) := by
      show (w.setCell ⟨g, off + l.length, none⟩ _).cell? _ = _
      rw [setCell_eq_setRow w g (off + l.length) cur _ fr _ hg, cell_of_row _ g (off + l.length) _ _ fr (setRow_heap w g cur _ _ _ hg), Array.getElem?_setIfInBounds, if_pos rfl, if_pos (by omega)]
    have hz2 : (w.setCells g (off + l.length) [.int .u8 (x.toNat : Int)]).heap.size = w.heap.size := by
      show (w.setCell ⟨g, off + l.length, none⟩ _).heap.size = _
      simp
    refine ⟨_, _, hr, ⟨_, cap, by rw [List.length_append]; rfl, by rw [List.length_append]; exact hroom, .inr ⟨g, off, rfl, by rw [hz2]; exact hglt, fun j hj => ?_⟩⟩, ⟨_, cap, rfl, hl, .inr ⟨g, off, rfl, by rw [hz2]; exact hglt, hold⟩⟩, grown_set w ⟨g, off + l.length, none⟩ _, fun b hb => ?_⟩
    · rcases Nat.lt_or_ge j l.length with h | h
      · rw [List.getElem_append_left h]; exact hold j h
      · have hj2 : j = l.length := by rw [List.length_append] at hj; simp at hj; omega
        subst hj2
        rw [List.getElem_append_right (Nat.le_refl _)]
        simpa using hnew
    · injection hb with hb
      exact ⟨.inl (by rw [← hb]; rfl), by rw [hz2, ← hb]; exact hglt⟩
  · have hold := run_firstCells_some (P := Tryd.prog) w.drew i.size l.length ⟨g, off, none⟩ l.length cap (cb l) (by rw [hsize, cb_length, Nat.mul_one]) (fun j u hj => by
      have hjl : j < l.length := by have := (List.getElem?_eq_some_iff.1 hj).1; rwa [cb_length] at this
      rw [cb_get hjl] at hj
      rw [add_plain, ← hj]
      exact (World.cell?_drew _ _).trans (hcw j hjl))
    have hr := run_append_grow_src (P := Tryd.prog) w 22 22 ty 5 i _ ht hi hz (some ⟨g, off, none⟩) l.length cap (cb l) hold _ 1 _ hs (by omega) (by omega) (growslice_fits (by omega) (by rw [hby]; omega))
    have hge := grownCap_ge w (l.length + 1) cap 5
    have hup : ∀ o, Up w (w.drew.alloc o) := fun o => ((Up.refl w).drew).alloc o
    refine ⟨_, _, hr, ⟨_, _, by rw [List.length_append]; rfl, by rw [List.length_append]; exact hge, .inr ⟨w.heap.size, 0, rfl, by rw [World.alloc]; simp, fun j hj => ?_⟩⟩, hsl.up (hup _), ⟨rfl, rfl, rfl, by simp, fun k hk _ => heap_alloc_old w.drew _ hk⟩, fun b hb => ?_⟩
    · rw [cell_of_row _ w.heap.size (0 + j) _ _ _ (heap_alloc_new w.drew _), Nat.zero_add]
      have hcl : (cb l ++ [Value.int .u8 (x.toNat : Int)])[j]? = some (.int .u8 ((l ++ [x])[j].toNat : Int)) := by
        rw [show cb l ++ [Value.int .u8 (x.toNat : Int)] = cb (l ++ [x]) by rw [cb_append]; rfl]
        exact cb_get hj
      have hj3 : j < (cb l ++ [Value.int .u8 (x.toNat : Int)]).length := (List.getElem?_eq_some_iff.1 hcl).1
      rw [← Array.getElem?_toList, Array.toList_append, List.getElem?_append_left (by simpa using hj3)]
      simpa using hcl
    · injection hb with hb
      exact ⟨.inr (Nat.le_of_eq hb), by rw [← hb, World.alloc]; simp⟩
theorem wpList_appN {ops : Array Oper} {rest : List Oper} {o : Oper} {a : Act} {w : World} {Q : Exit → Act → World → Prop} (hgd : o.guard = none) (s x : Operand)
    (ho : o.op = .call { callee := .builtin .append, args := #[s, x], argTypes := #[22, 22] }) (B : Nat) (v : Value) (l : List UInt8) (y : UInt8) (hs : a.eval s = v) (hown : OwnN w B v l)
    (ad : Addr) (c : Nat) (hx : a.eval x = .slice (some ad) 1 c) (hc : w.cell? ad = some (.int .u8 (y.toNat : Int))) (hn : l.length < 1099511627776)
    (h : ∀ v' w', Sl w' v' (l ++ [y]) → Sl w' v l → w.grownBy w' v.ownBlock → (∀ b, v'.ownBlock = some b → (v.ownBlock = some b ∨ w.heap.size ≤ b) ∧ b < w'.heap.size) → wpList Tryd.prog ops Q rest (a.put o.dst v') w') : wpList Tryd.prog ops Q (o :: rest) a w := by
  refine wpList_plain hgd fun K hK => ?_
  obtain ⟨v', w', hr, h2, h3, h4, h5⟩ := run_app_N y o.type hown ad c hc hn
  unfold Oper.wp execOp
  simp only [ho, resolve, invoke, builtin, Sem.run_bind, Sem.run_pure, Result.andThen_ok, List.map_toArray, List.map_cons, List.map_nil, hs, hx, hr]
  exact hK _ _ (h v' w' h2 h3 h4 h5)
end
section
open Go.RowKit TextNum
/-- a list that is read is appended to a list of one's own: one operation -/
theorem wp_appSl {o : Oper} {a : Act} {w : World} {K : Act → World → Prop} {Q : Exit → Act → World → Prop} (s x : Operand)
    (ho : o.op = .call { callee := .builtin .append, args := #[s, x], argTypes := #[22, 22] }) (B : Nat) (v vx : Value) (l m : List UInt8) (hs : a.eval s = v) (hown : Own w B v l)
    (hx : a.eval x = vx) (hm : Sl w vx m) (hn : l.length + m.length ≤ 140737488355328) (hB : B ≤ w.heap.size)
    (h : ∀ v' w', Own w' B v' (l ++ m) → Below B w w' → K (a.put o.dst v') w') : Oper.wp Tryd.prog o a w K Q := by
  obtain ⟨ad, c, rfl, hc, hm⟩ := hm
  cases ad with
  | some ad =>
    obtain ⟨i0, hi, hz0, hz1, hz2⟩ := info_parts Tryd.info8
    refine wp_append_own _ s x 22 ho B 5 i0 (.int .u8 0) 1 1 Tryd.underlying22 hi hz0 hz1 hz2 rfl (by decide) v l.length (cb l) hs hown ad m.length c (cb m) hx (by simp [cb]) ?_ (cb_one m) (by unfold maxLen; omega) (by omega) hB ?_
    · rcases hm with rfl | ⟨b, off, e, hb, hcell⟩
      · intro j u hj; simp [cb] at hj
      · cases e
        intro j u hj
        have hjl : j < m.length := by have := (List.getElem?_eq_some_iff.1 hj).1; rwa [cb_length] at this
        rw [cb_get hjl] at hj
        rw [add_plain, hcell j hjl]; exact hj
    · intro v' w' h1 h2 _
      refine h v' w' ?_ ((Below.refl B w).grown h2 hB (fun k hk => (World.ownsRow.lt hown k hk).1))
      unfold Own
      rw [List.length_append, cb_append]
      exact h1
  | none =>
    rcases hm with rfl | ⟨b, off, e, _⟩
    · have hr := run_app_none (ty := o.type) (c := c) hown
      unfold Oper.wp execOp
      simp only [List.length_nil] at hx
      simp only [ho, resolve, invoke, builtin, Sem.run_bind, Sem.run_pure, Result.andThen_ok, List.map_toArray, List.map_cons, List.map_nil, hs, hx, hr]
      exact h v w (by rw [List.append_nil]; exact hown) (Below.refl _ _)
    · cases e
set_option maxRecDepth 100000 in
set_option maxHeartbeats 1000000 in
theorem sigLine_walk (s : Sg) (a : Option Addr) (c : Nat) (w : World) (hT : TabL w) (hb : Sl w (.slice a s.bytes.length c) s.bytes) (hn : s.name.size ≤ 65536) (hl : s.bytes.length ≤ 65536) (hh : s.hash < 4294967296) :
    Calls Tryd.prog 60 #[.agg #[.string s.name, .int .u32 (s.hash : Int), .slice a s.bytes.length c]] w fun e w' => e = .returned (vs (sigB s ++ [10])) ∧ Up w w' := by
  have HT := Hid.of hT
  have HB := Hid.of hb
  clear hT hb
  obtain ⟨name, hash, bytes⟩ := s
  dsimp only at HB hl hn hh ⊢
  generalize hs1 : (⟨#[226, 128, 148, 32]⟩ : ByteArray) ++ name = s1
  have k1 : s1.size ≤ 65540 := by rw [← hs1, ByteArray.size_append, show (⟨#[226, 128, 148, 32]⟩ : ByteArray).size = 4 from rfl]; omega
  generalize hs2 : s1 ++ (⟨#[32]⟩ : ByteArray) = s2
  have k2 : s2.size ≤ 65541 := by rw [← hs2, ByteArray.size_append, show (⟨#[32]⟩ : ByteArray).size = 1 from rfl]; omega
  generalize hs3 : (⟨(b64E (hb4 hash ++ bytes)).toArray⟩ : ByteArray) = s3
  have k3 : s3.size ≤ 131072 := by rw [← hs3, Go.Lib.size_eq]; simp only [b64E_length, List.length_append, hb4, List.length_cons, List.length_nil]; omega
  generalize hs4 : s2 ++ s3 = s4
  have k4 : s4.size ≤ 196613 := by rw [← hs4, ByteArray.size_append]; omega
  generalize hs5 : s4 ++ (⟨#[10]⟩ : ByteArray) = s5
  have k5 : s5.size ≤ 196614 := by rw [← hs5, ByteArray.size_append, show (⟨#[10]⟩ : ByteArray).size = 1 from rfl]; omega
  have HE := Hid.of (show vs (sigB ⟨name, hash, bytes⟩ ++ [10]) = .string s5 by
    rw [← hs5, ← hs4, ← hs3, ← hs2, ← hs1]
    unfold vs
    refine congrArg Value.string (ba_list7 ?_)
    simp [sigB, MK, ByteArray.data_append])
  have HL := Hid.of hl
  clear hl
  go_enter Tryd.func60, Tryd.ntmps60
  go_wp2_with fail
  generalize hnb : bytes.length = nb at *
  refine wp_region_held_drew (S := fun w2 => w2.cell? ⟨w.heap.size, 0, none⟩ = some (.string name) ∧ w2.cell? ⟨w.heap.size, 1, none⟩ = some (.int .u32 (hash : Int)) ∧ w2.cell? ⟨w.heap.size, 2, none⟩ = some (.slice a nb c) ∧ Up (w.alloc (.cells #[.string name, .int .u32 (hash : Int), .slice a nb c] 42)) w2) (by kernel_rfl) ⟨by simp, by simp, by simp, (Up.refl _).drew⟩ (fun hS => ?_)
  refine wpAnyH_take (i := 0) (oi := { dst := some 3, op := Go.Op.fieldAddr 42 (Go.Operand.tmp 1) 0, type := 0, pos := "note.go:70", after := #[], guard := none }) (v := .pointer (some ⟨w.heap.size, 0, none⟩)) rfl (by kernel_rfl) (by kernel_rfl) (by kernel_rfl) (fun _ _ _ h => h) (Or.inl ⟨by kernel_rfl, ?_⟩) hS ?_
  · intro w5 hSw
    clear hSw hS
    go_simp
  simp only [Act.put, List.setIfInBounds_toArray, List.set_cons_zero, List.set_cons_succ]
  refine wpAnyH_take (i := 1) (oi := { dst := some 4, op := Go.Op.load 9 (Go.Operand.tmp 3), type := 9, pos := "note.go:70", after := #[{ on := 0, ground := Go.Ground.data }], guard := none }) (v := .string name) rfl (by kernel_rfl) (by kernel_rfl) (by kernel_rfl) (fun _ _ _ h => h) (Or.inl ⟨by kernel_rfl, ?_⟩) hS ?_
  · intro w5 hSw
    have h1 := hSw.1
    have h2 := hSw.2.1
    have h3 := hSw.2.2.1
    clear hSw
    go_simp
  simp only [Act.put, List.setIfInBounds_toArray, List.set_cons_zero, List.set_cons_succ]
  refine wpAnyH_take (i := 2) (oi := { dst := some 5, op := Go.Op.binOp Go.BinOp.add 9 (Go.Operand.const (Go.Value.string { data := #[226, 128, 148, 32] })) (Go.Operand.tmp 4) 9, type := 9, pos := "note.go:70", after := #[{ on := 1, ground := Go.Ground.data }], guard := none }) (v := .string s1) rfl (by kernel_rfl) (by kernel_rfl) (by kernel_rfl) (fun _ _ _ h => h) (Or.inl ⟨by kernel_rfl, ?_⟩) hS ?_
  · intro w5 hSw
    clear hSw hS
    go_simp <;> omega
  simp only [Act.put, List.setIfInBounds_toArray, List.set_cons_zero, List.set_cons_succ]
  refine wpAnyH_take (i := 3) (oi := { dst := some 6, op := Go.Op.binOp Go.BinOp.add 9 (Go.Operand.tmp 5) (Go.Operand.const (Go.Value.string { data := #[32] })) 9, type := 9, pos := "note.go:70", after := #[{ on := 2, ground := Go.Ground.data }], guard := none }) (v := .string s2) rfl (by kernel_rfl) (by kernel_rfl) (by kernel_rfl) (fun _ _ _ h => h) (Or.inl ⟨by kernel_rfl, ?_⟩) hS ?_
  · intro w5 hSw
    clear hSw hS
    go_simp <;> omega
  simp only [Act.put, List.setIfInBounds_toArray, List.set_cons_zero, List.set_cons_succ]
  refine wpAnyH_take (i := 4) (oi := { dst := some 7, op := Go.Op.fieldAddr 42 (Go.Operand.tmp 1) 1, type := 0, pos := "note.go:70", after := #[], guard := none }) (v := .pointer (some ⟨w.heap.size, 1, none⟩)) rfl (by kernel_rfl) (by kernel_rfl) (by kernel_rfl) (fun _ _ _ h => h) (Or.inl ⟨by kernel_rfl, ?_⟩) hS ?_
  · intro w5 hSw
    clear hSw hS
    go_simp
  simp only [Act.put, List.setIfInBounds_toArray, List.set_cons_zero, List.set_cons_succ]
  refine wpAnyH_take (i := 5) (oi := { dst := some 8, op := Go.Op.load 40 (Go.Operand.tmp 7), type := 40, pos := "note.go:70", after := #[{ on := 4, ground := Go.Ground.data }], guard := none }) (v := .int .u32 (hash : Int)) rfl (by kernel_rfl) (by kernel_rfl) (by kernel_rfl) (fun _ _ _ h => h) (Or.inl ⟨by kernel_rfl, ?_⟩) hS ?_
  · intro w5 hSw
    have h1 := hSw.1
    have h2 := hSw.2.1
    have h3 := hSw.2.2.1
    clear hSw
    go_simp
  simp only [Act.put, List.setIfInBounds_toArray, List.set_cons_zero, List.set_cons_succ]
  refine wpAnyH_take (i := 7) (oi := { dst := some 10, op := Go.Op.fieldAddr 42 (Go.Operand.tmp 1) 2, type := 0, pos := "note.go:70", after := #[], guard := none }) (v := .pointer (some ⟨w.heap.size, 2, none⟩)) rfl (by kernel_rfl) (by kernel_rfl) (by kernel_rfl) (fun _ _ _ h => h) (Or.inl ⟨by kernel_rfl, ?_⟩) hS ?_
  · intro w5 hSw
    clear hSw hS
    go_simp
  simp only [Act.put, List.setIfInBounds_toArray, List.set_cons_zero, List.set_cons_succ]
  refine wpAnyH_take (i := 8) (oi := { dst := some 11, op := Go.Op.load 22 (Go.Operand.tmp 10), type := 22, pos := "note.go:70", after := #[{ on := 7, ground := Go.Ground.data }], guard := none }) (v := .slice a nb c) rfl (by kernel_rfl) (by kernel_rfl) (by kernel_rfl) (fun _ _ _ h => h) (Or.inl ⟨by kernel_rfl, ?_⟩) hS ?_
  · intro w5 hSw
    have h1 := hSw.1
    have h2 := hSw.2.1
    have h3 := hSw.2.2.1
    clear hSw
    go_simp
  simp only [Act.put, List.setIfInBounds_toArray, List.set_cons_zero, List.set_cons_succ]
  refine wpAnyH_ready (rs := [6]) (by kernel_rfl) (by simp) ?_
  refine AllReadyH.cons (o := { dst := some 9, op := Go.Op.call { callee := Go.Callee.value (Go.Operand.func 83), args := #[Go.Operand.tmp 8], argTypes := #[40] }, type := 22, pos := "note.go:70", after := #[{ on := 5, ground := Go.Ground.data }], guard := none }) rfl (fun K hK => ?_) AllReadyH.nil
  rw [if_pos (by kernel_rfl)]
  go_simp
  refine (hashBytes_walk hash hh _).mono ?_
  rintro e w2 ⟨v6, rfl, hO, u⟩
  dsimp only
  have hS2 := (show _ ∧ _ ∧ _ ∧ Up (w.alloc (.cells #[.string name, .int .u32 (hash : Int), .slice a nb c] 42)) w2 from ⟨u.cell hS.1, u.cell hS.2.1, u.cell hS.2.2.1, hS.2.2.2.trans u⟩)
  clear hS
  refine hK.out _ _ hS2 (fun hS => ?_)
  clear hK hS2 K
  refine wpAnyH_ready (rs := [9]) (by kernel_rfl) (by simp) ?_
  refine AllReadyH.cons (o := { dst := some 12, op := Go.Op.call { callee := Go.Callee.builtin Go.Builtin.append, args := #[Go.Operand.tmp 9, Go.Operand.tmp 11], argTypes := #[22, 22] }, type := 22, pos := "note.go:70", after := #[{ on := 6, ground := Go.Ground.data }, { on := 8, ground := Go.Ground.data }, { on := 6, ground := Go.Ground.chain }], guard := none }) rfl (fun K hK => ?_) AllReadyH.nil
  rw [if_pos (by kernel_rfl)]
  refine wp_appSl (Operand.tmp 9) (Operand.tmp 11) rfl _ v6 (.slice a nb c) (hb4 hash) bytes rfl hO rfl (by exact HB.out.up (((Up.refl w).alloc _).trans hS.2.2.2)) (by have := HL.out; simp [hb4]; omega) (Nat.le_trans (by simp) u.size) ?_
  intro v9 w3 hO9 hB9
  simp only [Act.put, List.setIfInBounds_toArray, List.set_cons_zero, List.set_cons_succ]
  have u3 : Up (w.alloc (.cells #[.string name, .int .u32 (hash : Int), .slice a nb c] 42)) w3 := Up.step hS.2.2.2 (by simp) hB9
  have hS2 := (show w3.cell? ⟨w.heap.size, 0, none⟩ = some (.string name) ∧ w3.cell? ⟨w.heap.size, 1, none⟩ = some (.int .u32 (hash : Int)) ∧ w3.cell? ⟨w.heap.size, 2, none⟩ = some (.slice a nb c) ∧ Up (w.alloc (.cells #[.string name, .int .u32 (hash : Int), .slice a nb c] 42)) w3 from ⟨u3.cell (by simp), u3.cell (by simp), u3.cell (by simp), u3⟩)
  have HO9 := Hid.of hO9.sl
  clear hS hO u hB9 u3 hO9
  refine hK.out _ _ hS2 (fun hS => ?_)
  clear hK hS2 K
  obtain ⟨n9, a9, c9, rfl⟩ : ∃ n a c, v9 = .slice a n c := by
    obtain ⟨a9, c9, e, _⟩ := HO9.out
    exact ⟨_, a9, c9, e⟩
  refine wpAnyH_ready (rs := [10]) (by kernel_rfl) (by simp) ?_
  refine AllReadyH.cons (o := { dst := some 13, op := Go.Op.call { callee := Go.Callee.value (Go.Operand.func 10), args := #[Go.Operand.tmp 12], argTypes := #[22] }, type := 9, pos := "note.go:70", after := #[{ on := 9, ground := Go.Ground.data }, { on := 9, ground := Go.Ground.chain }], guard := none }) rfl (fun K hK => ?_) AllReadyH.nil
  rw [if_pos (by kernel_rfl)]
  go_simp
  refine (EncodeBase64_walk _ (hb4 hash ++ bytes) w3 (HT.out.up (((Up.refl w).alloc _).trans hS.2.2.2)) HO9.out (by have := HL.out; simp [hb4]; omega)).mono ?_
  rintro e w4 ⟨rfl, u⟩
  rw [show vs (b64E (hb4 hash ++ bytes)) = .string s3 by rw [← hs3]]
  dsimp only
  have hS2 := (show w4.cell? ⟨w.heap.size, 0, none⟩ = some (.string name) ∧ w4.cell? ⟨w.heap.size, 1, none⟩ = some (.int .u32 (hash : Int)) ∧ w4.cell? ⟨w.heap.size, 2, none⟩ = some (.slice a nb c) ∧ Up (w.alloc (.cells #[.string name, .int .u32 (hash : Int), .slice a nb c] 42)) w4 from ⟨u.cell hS.1, u.cell hS.2.1, u.cell hS.2.2.1, hS.2.2.2.trans u⟩)
  clear hS u HO9
  refine hK.out _ _ hS2 (fun hS => ?_)
  clear hK hS2 K
  refine wpAnyH_take (i := 11) (oi := { dst := some 14, op := Go.Op.binOp Go.BinOp.add 9 (Go.Operand.tmp 6) (Go.Operand.tmp 13) 9, type := 9, pos := "note.go:70", after := #[{ on := 3, ground := Go.Ground.data }, { on := 10, ground := Go.Ground.data }], guard := none }) (v := .string s4) rfl (by kernel_rfl) (by kernel_rfl) (by kernel_rfl) (fun _ _ _ h => h) (Or.inl ⟨by kernel_rfl, ?_⟩) hS ?_
  · intro w5 hSw
    clear hSw hS
    go_simp <;> omega
  simp only [Act.put, List.setIfInBounds_toArray, List.set_cons_zero, List.set_cons_succ]
  refine wpAnyH_take (i := 12) (oi := { dst := some 15, op := Go.Op.binOp Go.BinOp.add 9 (Go.Operand.tmp 14) (Go.Operand.const (Go.Value.string { data := #[10] })) 9, type := 9, pos := "note.go:70", after := #[{ on := 11, ground := Go.Ground.data }], guard := none }) (v := .string s5) rfl (by kernel_rfl) (by kernel_rfl) (by kernel_rfl) (fun _ _ _ h => h) (Or.inl ⟨by kernel_rfl, ?_⟩) hS ?_
  · intro w5 hSw
    clear hSw hS
    go_simp <;> omega
  simp only [Act.put, List.setIfInBounds_toArray, List.set_cons_zero, List.set_cons_succ]
  refine wpAnyH_take (i := 13) (oi := { dst := some 2, op := Go.Op.assign (Go.Operand.tmp 15), type := 9, pos := "note.go:70", after := #[{ on := 12, ground := Go.Ground.data }, { on := 10, ground := Go.Ground.chain }, { on := 0, ground := Go.Ground.phase }, { on := 1, ground := Go.Ground.phase }, { on := 2, ground := Go.Ground.phase }, { on := 3, ground := Go.Ground.phase }, { on := 4, ground := Go.Ground.phase }, { on := 5, ground := Go.Ground.phase }, { on := 6, ground := Go.Ground.phase }, { on := 7, ground := Go.Ground.phase }, { on := 8, ground := Go.Ground.phase }, { on := 9, ground := Go.Ground.phase }, { on := 10, ground := Go.Ground.phase }, { on := 11, ground := Go.Ground.phase }, { on := 12, ground := Go.Ground.phase }], guard := none }) (v := .string s5) rfl (by kernel_rfl) (by kernel_rfl) (by kernel_rfl) (fun _ _ _ h => h) (Or.inl ⟨by kernel_rfl, ?_⟩) hS ?_
  · intro w5 hSw
    clear hSw hS
    go_simp
  simp only [Act.put, List.setIfInBounds_toArray, List.set_cons_zero, List.set_cons_succ]
  have HU := Hid.of (((Up.refl w).alloc _).trans hS.2.2.2)
  clear hS
  refine wpAnyH_done (by kernel_rfl) ?_ _
  go_wp2
  go_ret
  exact ⟨by rw [HE.out]; rfl, HU.out⟩
end
section
open Go.RowKit TextNum
/-- a note's lines so far -/
def fmtP (t : List UInt8) (ss : List Sg) (i : Nat) : List UInt8 := t ++ 10 :: joinL ((ss.take i).map sigB)
theorem joinL_app7 : ∀ (a b : List (List UInt8)), joinL (a ++ b) = joinL a ++ joinL b
  | [], b => by simp [joinL]
  | x :: a, b => by rw [List.cons_append, joinL_cons, joinL_cons, joinL_app7 a b]; simp
theorem fmtP_succ (t : List UInt8) (ss : List Sg) (i : Nat) (h : i < ss.length) : fmtP t ss (i + 1) = fmtP t ss i ++ (sigB ss[i] ++ [10]) := by
  unfold fmtP
  rw [List.take_succ_eq_append_getElem h, List.map_append, joinL_app7]
  simp [joinL]
theorem sumL_take_le (ss : List Sg) (i : Nat) : sumL (ss.take i) ≤ sumL ss := by
  induction ss generalizing i with
  | nil => simp [sumL]
  | cons s r ih =>
    cases i with
    | zero => simp [sumL]
    | succ i => have := ih i; simp only [List.take_succ_cons, sumL]; omega
theorem fmtP_len (t : ByteArray) (ss : List Sg) (i : Nat) : (fmtP t.data.toList ss i).length ≤ nlen t ss := by
  unfold fmtP nlen
  have := sumL_take_le ss i
  rw [List.length_append, List.length_cons, joinL_len, ← Go.Lib.size_eq]
  omega
def Hsh (ss : List Sg) : Prop := ∀ s, s ∈ ss → s.hash < 4294967296
/-- what Format answers -/
def FA (t : ByteArray) (ss : List Sg) (w : World) (e : Ending) (w' : World) : Prop := ∃ v er, e = .returned (.tuple #[v, .int .i64 er]) ∧ FR t ss er ∧ (er = 0 → Sl w' v (fmtN t.data.toList ss)) ∧ (er ≠ 0 → v = .slice none 0 0) ∧ Up w w'
def FB (t : ByteArray) (ss : List Sg) (w : World) (e : Ending) (w' : World) : Prop := ∃ v er, e = .returned (.tuple #[v, .int .i64 er]) ∧ FR t ss er ∧ (er = 0 → OwnM w' w.heap.size v (fmtN t.data.toList ss)) ∧ (er ≠ 0 → v = .slice none 0 0) ∧ Up w w'
theorem FB.fa {t : ByteArray} {ss : List Sg} {w : World} {e : Ending} {w' : World} (h : FB t ss w e w') : FA t ss w e w' := by
  obtain ⟨v, er, h1, h2, h3, h4, h5⟩ := h
  exact ⟨v, er, h1, h2, fun h => (h3 h).sl, h4, h5⟩
open Classical in
set_option maxRecDepth 100000 in
set_option maxHeartbeats 2000000 in
theorem Format_walkM (t : ByteArray) (ht : t.size ≤ 140737488355328) (v : Value) (ss : List Sg) (w : World) (hS : SigL w v ss) (hb : Bds ss) (hh : Hsh ss) (hT : TabL w) (hW : Go.Lib.WhiteTab 3 w) :
    Calls Tryd.prog 23 #[.string t, v] w (FB t ss w) := by
  obtain ⟨a, c, rfl, hc, hg⟩ := hS.get
  have HG := Hid.of hg
  have HS := Hid.of hS
  have HB := Hid.of hb
  have HH := Hid.of hh
  have HT := Hid.of hT
  have HW := Hid.of hW
  clear hS hg hb hh hT hW
  obtain ⟨n, hn⟩ : ∃ n, ss.length = n := ⟨_, rfl⟩
  rw [hn] at hc HS ⊢
  go_enter Tryd.func23, Tryd.ntmps23
  by_cases h16 : 16 < n
  · have h16' : (16 : Int) < (n : Int) := by omega
    go_wp2
    go_ret2
    exact ⟨_, _, rfl, .inl ⟨rfl, .inl (by omega)⟩, fun h => absurd h (by decide), fun _ => rfl, Up.refl _⟩
  have h16' : ¬ (16 : Int) < (n : Int) := by omega
  go_wp2_with fail
  refine (noteLength_walk t ht _ ss w HS.out (by omega) HB.out).mono ?_
  rintro e w1 ⟨rfl, u1⟩
  have H1 := Hid.of u1
  clear u1
  have HE := Hid.of (show nlen t ss = nlen t ss from rfl)
  generalize hN : nlen t ss = N at HE ⊢
  dsimp only
  by_cases hL : 65536 < N
  · have hL' : (65536 : Int) < (N : Int) := by omega
    go_wp2
    go_ret2
    exact ⟨_, _, rfl, .inl ⟨rfl, .inr (by omega)⟩, fun h => absurd h (by decide), fun _ => rfl, H1.out⟩
  have hL' : ¬ (65536 : Int) < (N : Int) := by omega
  have HLg := Hid.of (show ¬ Lng t ss by unfold Lng; omega)
  go_wp2_with fail
  refine (isNoteText_walk t ht w1).mono ?_
  rintro e w2 ⟨rfl, u2⟩
  have H2 := Hid.of (H1.out.trans u2)
  clear u2 H1
  by_cases hk : okT t
  rotate_left
  · rw [decide_eq_false hk]
    have HK := Hid.of hk
    clear hk
    dsimp only
    go_wp2
    go_ret2
    exact ⟨_, _, rfl, .inr (.inl ⟨rfl, HLg.out, fun h => HK.out h.1⟩), fun h => absurd h (by decide), fun _ => rfl, H2.out⟩
  rw [decide_eq_true hk]
  have HK := Hid.of hk
  clear hk
  dsimp only
  by_cases h0 : n = 0
  · have h0' : ((n : Int) == 0) = true := by simpa using h0
    go_wp2
    go_ret2
    exact ⟨_, _, rfl, .inr (.inl ⟨rfl, HLg.out, fun h => h.2.1 (List.length_eq_zero_iff.1 (by omega))⟩), fun h => absurd h (by decide), fun _ => rfl, H2.out⟩
  have h0' : ((n : Int) == 0) = false := by simpa using h0
  go_wp2_with fail
  refine (ContainsFunc_walk _ ss w2 (HS.out.up H2.out) (by omega) (WhiteTab_up HW.out H2.out)).mono ?_
  rintro e w3 ⟨rfl, u3⟩
  have H3 := Hid.of (H2.out.trans u3)
  clear u3 H2
  by_cases hA : AllOk ss
  rotate_left
  · rw [decide_eq_true hA]
    have HA := Hid.of hA
    clear hA
    dsimp only
    go_wp2
    go_ret2
    exact ⟨_, _, rfl, .inr (.inl ⟨rfl, HLg.out, fun h => HA.out h.2.2⟩), fun h => absurd h (by decide), fun _ => rfl, H3.out⟩
  rw [decide_eq_false (fun h => h hA)]
  have HF := Hid.of (show Fine t ss from ⟨HK.out, fun e => h0 (by rw [← hn, e]; rfl), hA⟩)
  clear hA HK
  dsimp only
  go_wp2_with (with_reducible show wpList _ _ _ ({ dst := _, op := Op.convert 9 22 _, type := _, pos := _, after := _, guard := _ } :: _) _ _; refine Shut.out ?_)
  show wpList _ _ _ _ _ _
  refine wpList_conv rfl _ rfl t ht rfl ?_
  intro v4 w4 hO4 u4
  simp only [Act.put, List.setIfInBounds_toArray, List.set_cons_zero, List.set_cons_succ]
  go_wp2_with (with_reducible show wpList _ _ _ ({ dst := _, op := Op.call { callee := Callee.builtin Builtin.append, args := _, argTypes := _ }, type := _, pos := _, after := _, guard := _ } :: _) _ _; refine Shut.out ?_)
  show wpList _ _ _ _ _ _
  refine wpList_appsM rfl _ _ rfl w3.heap.size v4 t.data.toList [10] rfl hO4 rfl (by rw [← Go.Lib.size_eq]; simp only [List.length_cons, List.length_nil]; unfold nlen at hN; omega) u4.size ?_
  intro v5 w5 hO5 b5
  simp only [Act.put, List.setIfInBounds_toArray, List.set_cons_zero, List.set_cons_succ]
  have H5 := Hid.of (show OwnM w5 w.heap.size v5 (fmtP t.data.toList ss 0) ∧ Up w w5 from by
    refine ⟨?_, (H3.out.trans u4).step (Nat.le_trans H3.out.size (Nat.le_refl _)) b5⟩
    obtain ⟨g, cap, cur, fr, e, hg, r⟩ := hO5
    exact ⟨g, cap, cur, fr, e, Nat.le_trans H3.out.size hg, r⟩)
  clear hO4 u4 hO5 b5 H3
  go_wp2
  go_loopw [6, 35] (fun v6 v35 wr => ∃ i : Nat, v35 = .int .i64 (i : Int) ∧ i ≤ n ∧ Hid (OwnM wr w.heap.size v6 (fmtP t.data.toList ss i) ∧ Up w wr)) (fun _ v35 _ => n - (intOf v35).toNat)
  case atStart => exact ⟨0, rfl, by omega, H5.out⟩
  case round =>
    obtain ⟨i, rfl, hi, hI⟩ := hrel
    by_cases hlt : i < n
    · have hlt' : (i : Int) < (n : Int) := by omega
      have hltS : i < ss.length := by omega
      obtain ⟨b, off, rfl, a2, n2, c2, k1, k2, k3, rfl, k5⟩ := HG.out i hltS
      have k1' := hI.out.2.cell k1
      have k2' := hI.out.2.cell k2
      have k3' := hI.out.2.cell k3
      have HSl := Hid.of (k5.up hI.out.2)
      clear k1 k2 k3 k5
      have HM := Hid.of (List.getElem_mem hltS)
      have HX := Hid.of (fmtP_succ t.data.toList ss i hltS)
      generalize ss[i] = s at *
      have HZ := Hid.of (sgLen_le HM.out)
      have HP := Hid.of (fmtP_len t ss (i + 1))
      go_wp2_with fail
      refine (sigLine_walk s a2 c2 _ (HT.out.up (hI.out.2.alloc _)) (by exact HSl.out.up ((Up.refl wr).alloc _)) (by have := HZ.out; unfold sgLen at this; unfold nlen at hN; omega) (by have := HZ.out; unfold sgLen at this; unfold nlen at hN; omega) (HH.out s HM.out)).mono ?_
      rintro e w6 ⟨rfl, u6⟩
      have H6 := Hid.of ((Up.alloc (Up.refl wr) _).trans u6)
      clear u6
      rw [show vs (sigB s ++ [10]) = .string ⟨(sigB s ++ [10]).toArray⟩ from rfl]
      dsimp only
      go_wp2_with (with_reducible show wpList _ _ _ ({ dst := _, op := Op.call { callee := Callee.builtin Builtin.append, args := _, argTypes := _ }, type := _, pos := _, after := _, guard := _ } :: _) _ _; refine Shut.out ?_)
      show wpList _ _ _ _ _ _
      refine wpList_appsM rfl _ _ rfl w.heap.size _ (fmtP t.data.toList ss i) (sigB s ++ [10]) rfl (hI.out.1.up H6.out) rfl (by have := HP.out; rw [HX.out, List.length_append] at this; omega) (hI.out.2.trans H6.out).size ?_
      intro v7 w7 hO7 b7
      simp only [Act.put, List.setIfInBounds_toArray, List.set_cons_zero, List.set_cons_succ]
      have HN := Hid.of (show OwnM w7 w.heap.size v7 (fmtP t.data.toList ss (i + 1)) ∧ Up w w7 from ⟨by rw [HX.out]; exact hO7, (hI.out.2.trans H6.out).step (Nat.le_refl _) b7⟩)
      clear hO7 b7 H6 HX HSl k1' k2' k3'
      go_wp2
      go_roundw
      case rel => exact ⟨i + 1, by go_num, by omega, HN⟩
      case measure => simp [intOf]; omega
    · have hlt' : ¬ (i : Int) < (n : Int) := by omega
      have hin : i = ss.length := by omega
      go_wp2
      go_ret2
      refine ⟨_, _, rfl, .inr (.inr ⟨rfl, HLg.out, HF.out⟩), fun _ => ?_, fun h => absurd rfl h, hI.out.2⟩
      have := hI.out.1
      unfold fmtP at this
      rwa [hin, List.take_length] at this
theorem Format_walk (t : ByteArray) (ht : t.size ≤ 140737488355328) (v : Value) (ss : List Sg) (w : World) (hS : SigL w v ss) (hb : Bds ss) (hh : Hsh ss) (hT : TabL w) (hW : Go.Lib.WhiteTab 3 w) :
    Calls Tryd.prog 23 #[.string t, v] w (FA t ss w) := (Format_walkM t ht v ss w hS hb hh hT hW).mono fun _ _ h => h.fa
end
section
open Go.RowKit TextNum
theorem orS32 (a b k : Nat) (hb : b < 2 ^ k) (h : 2 ^ k * a + b < 4294967296) : bits .or .u32 ((2 ^ k * a : Nat) : Int) (b : Int) = ((2 ^ k * a + b : Nat) : Int) := by
  rw [u32_or_nat _ _ (by omega) (by omega), Nat.two_pow_add_eq_or_of_lt hb]
theorem or_h4 (x0 x1 x2 x3 : UInt8) : bits .or .u32 (bits .or .u32 (bits .or .u32 ((x0.toNat : Int) * 16777216) ((x1.toNat : Int) * 65536)) ((x2.toNat : Int) * 256)) (x3.toNat : Int) = (h4 [x0, x1, x2, x3] : Int) := by
  have h0 := x0.toNat_lt
  have h1 := x1.toNat_lt
  have h2 := x2.toNat_lt
  have h3 := x3.toNat_lt
  have e1 := orS32 x0.toNat (x1.toNat * 65536) 24 (by omega) (by omega)
  have e2 := orS32 (x0.toNat * 256 + x1.toNat) (x2.toNat * 256) 16 (by omega) (by omega)
  have e3 := orS32 (x0.toNat * 65536 + x1.toNat * 256 + x2.toNat) x3.toNat 8 (by omega) (by omega)
  rw [show ((x0.toNat : Int) * 16777216) = ((2 ^ 24 * x0.toNat : Nat) : Int) by omega, show ((x1.toNat : Int) * 65536) = ((x1.toNat * 65536 : Nat) : Int) by omega, e1,
    show ((2 ^ 24 * x0.toNat + x1.toNat * 65536 : Nat) : Int) = ((2 ^ 16 * (x0.toNat * 256 + x1.toNat) : Nat) : Int) by omega, show ((x2.toNat : Int) * 256) = ((x2.toNat * 256 : Nat) : Int) by omega, e2,
    show ((2 ^ 16 * (x0.toNat * 256 + x1.toNat) + x2.toNat * 256 : Nat) : Int) = ((2 ^ 8 * (x0.toNat * 65536 + x1.toNat * 256 + x2.toNat) : Nat) : Int) by omega, e3]
  simp only [h4, List.getD_cons_zero, List.getD_cons_succ]
  omega
set_option maxRecDepth 100000 in
theorem hashNumber_walk (x0 x1 x2 x3 : UInt8) (w : World) : Calls Tryd.prog 105 #[.agg #[.int .u8 (x0.toNat : Int), .int .u8 (x1.toNat : Int), .int .u8 (x2.toNat : Int), .int .u8 (x3.toNat : Int)]] w fun e w' => e = .returned (.int .u32 (h4 [x0, x1, x2, x3] : Int)) ∧ Up w w' := by
  have h0 := x0.toNat_lt
  have h1 := x1.toNat_lt
  have h2 := x2.toNat_lt
  have h3 := x3.toNat_lt
  go_enter Tryd.func105, Tryd.ntmps105
  go_wp2
  go_ret
  refine ⟨?_, (Up.refl w).alloc _⟩
  rw [← or_h4]
  rfl
end
section
open Go.RowKit TextNum
theorem trim_pre {l : List UInt8} (h : Go.Lib.hasPrefix l MK = true) : Go.Lib.trimPrefix l MK = l.drop 4 := by
  unfold Go.Lib.trimPrefix
  rw [if_pos h]
  rfl
def zs : List Value := [.string ⟨#[]⟩, .int .u32 0, .slice none 0 0]
theorem zs_one : ∀ v, v ∈ zs → v.oneCell' = true := by
  intro v hv
  simp only [zs, List.mem_cons, List.not_mem_nil, or_false] at hv
  rcases hv with rfl | rfl | rfl <;> rfl
theorem five : ∀ {l : List UInt8}, 4 < l.length → ∃ x0 x1 x2 x3 x4 r5, l = x0 :: x1 :: x2 :: x3 :: x4 :: r5
  | x0 :: x1 :: x2 :: x3 :: x4 :: r5, _ => ⟨x0, x1, x2, x3, x4, r5, rfl⟩
theorem infoS : (Tryd.prog.info? 42).map (·.size) = some 3 := by kernel_rfl
theorem setCells_size (b : Nat) : ∀ (vs : List Value) (o : Nat) (w : World), (w.setCells b o vs).heap.size = w.heap.size
  | [], _, _ => rfl
  | v :: r, o, w => by
    show ((w.setCell ⟨b, o, none⟩ v).setCells b (o + 1) r).heap.size = _
    rw [setCells_size b r (o + 1)]
    simp
theorem sl_setCells {w : World} {g nl cv b : Nat} {l : List UInt8} {vs : List Value} (h : Sl w (.slice (some ⟨g, 0, none⟩) nl cv) l) (hne : g ≠ b) : Sl (w.setCells b 0 vs) (.slice (some ⟨g, 0, none⟩) nl cv) l := by
  obtain ⟨a, c, e, hc, h⟩ := h
  refine ⟨a, c, e, hc, ?_⟩
  rcases h with h | ⟨b', off, e2, hb, h⟩
  · exact .inl h
  · obtain rfl : g = b' := by
      injection e with e1 _ _
      rw [e2] at e1
      injection e1 with e1
      injection e1
    exact .inr ⟨g, off, e2, by rw [setCells_size]; exact hb, fun i hi => (World.cell?_setCells_out _ _ _ _ _ (fun e => absurd e hne)).trans (h i hi)⟩
/-- what readSigLine answers -/
def RA (l : List UInt8) (w : World) (e : Ending) (w' : World) : Prop :=
  (rdS l = none ∧ e = .returned (.tuple #[.agg #[.string ⟨#[]⟩, .int .u32 0, .slice none 0 0], .bool false]) ∧ Up w w') ∨
  ∃ x a c, rdS l = some x ∧ e = .returned (.tuple #[.agg #[.string x.name, .int .u32 (x.hash : Int), .slice a x.bytes.length c], .bool true]) ∧ Sl w' (.slice a x.bytes.length c) x.bytes ∧ (∀ b, (Value.slice a x.bytes.length c).ownBlock = some b → w.heap.size ≤ b ∧ b < w'.heap.size) ∧ Up w w' ∧ OwnN w' w.heap.size (.slice a x.bytes.length c) x.bytes
set_option maxRecDepth 100000 in
set_option maxHeartbeats 2000000 in
theorem readSigLine_walk (s : ByteArray) (hs : s.size ≤ 1048576) (w : World) (hT : TabL w) (hW : Go.Lib.WhiteTab 3 w) :
    Calls Tryd.prog 86 #[.string s] w (RA s.data.toList w) := by
  have HT := Hid.of hT
  have HW := Hid.of hW
  clear hT hW
  go_enter Tryd.func86, Tryd.ntmps86
  go_wp2_with fail
  refine (Any.strings_CutPrefix Tryd.lays103 s ⟨#[226, 128, 148, 32]⟩ _).mono ?_
  rintro e w' ⟨rfl, hw⟩
  obtain rfl := hw.symm
  rw [show (⟨#[226, 128, 148, 32]⟩ : ByteArray).data.toList = MK from rfl]
  by_cases hp : Go.Lib.hasPrefix s.data.toList MK = true
  rotate_left
  · have hp0 : Go.Lib.hasPrefix s.data.toList MK = false := by simpa using hp
    have HR := Hid.of (show rdS s.data.toList = none by unfold rdS; rw [if_neg hp])
    rw [hp0]
    clear hp hp0
    generalize (Go.Lib.trimPrefix s.data.toList MK) = tr
    dsimp only
    go_wp2
    refine bodyPost_ret (result_cell_tmp Tryd.results86 _ _ w.heap.size zs _ rfl rfl (fun j v hv => ?_) Tryd.underlying42 rfl infoS) rfl ?_
    · rw [World.cell?_alloc_at _ _ _ _ rfl, Nat.zero_add]; simpa [zs] using hv
    · exact .inl ⟨HR.out, rfl, (Up.refl w).alloc _⟩
  have HR := Hid.of (show rdS s.data.toList = _ by unfold rdS; rw [if_pos hp])
  rw [hp, trim_pre hp]
  clear hp
  have hrs : (s.data.toList.drop 4).length ≤ 1048576 := by rw [List.length_drop, ← Go.Lib.size_eq]; omega
  generalize s.data.toList.drop 4 = r at *
  generalize s.data.toList = l at *
  dsimp only
  go_wp2_with fail
  have hu0 := (Up.refl w).alloc (Obj.cells zs.toArray 42)
  have ht0 := there_new w zs 42
  have hz0 : w.heap.size < (w.alloc (Obj.cells zs.toArray 42)).heap.size := by rw [World.alloc]; simp
  change Calls _ _ _ (w.alloc (Obj.cells zs.toArray 42)) _
  generalize w.alloc (Obj.cells zs.toArray 42) = w0 at *
  refine (Cut1_walk ⟨r.toArray⟩ (by rw [Go.Lib.size_eq]; simpa using hrs) 32 _).mono ?_
  rintro e w1 ⟨rfl, n1, rfl⟩
  have hu1 : Up w (w0.drewN n1) := hu0.drewN n1
  have ht1 : (w0.drewN n1).there w.heap.size 0 3 := there_up ht0 hz0 ((Up.refl _).drewN n1)
  have hz1 : w.heap.size < (w0.drewN n1).heap.size := hz0
  generalize w0.drewN n1 = w1 at *
  clear hu0 ht0 hz0 hrs
  rw [show (⟨r.toArray⟩ : ByteArray).data.toList = r from rfl]
  generalize Go.Lib.cut r [32] = ct at *
  obtain ⟨nm, cd, fl⟩ := ct
  dsimp only at HR ⊢
  have H1 := Hid.of (And.intro hu1 (And.intro ht1 hz1))
  clear hu1 ht1 hz1
  go_wp2_with fail
  refine (DecodeBase64_walk ⟨cd.toArray⟩ w1 (HT.out.up H1.out.1)).mono ?_
  rintro e w2 ⟨v2, rfl, hO, u2⟩
  have H2 := Hid.of (show w2.there w.heap.size 0 3 ∧ Up w w2 ∧ w.heap.size < w2.heap.size from ⟨there_up H1.out.2.1 H1.out.2.2 u2, H1.out.1.trans u2, Nat.lt_of_lt_of_le H1.out.2.2 u2.size⟩)
  have HO := Hid.of (hO.base (Nat.succ_le_of_lt H1.out.2.2))
  clear u2 hO H1
  rw [show (⟨cd.toArray⟩ : ByteArray).data.toList = cd from rfl] at HO ⊢
  generalize b64R cd = br at *
  obtain ⟨bl, be⟩ := br
  dsimp only at HO HR ⊢
  obtain ⟨av, cv, rfl⟩ := HO.out.len
  generalize hnl : bl.length = nl at *
  go_wp2_with fail
  refine (CheckName_walk ⟨nm.toArray⟩ w2 (WhiteTab_up HW.out H2.out.2.1)).mono ?_
  rintro e w3 ⟨rfl, u3⟩
  have H3 := Hid.of (show w3.there w.heap.size 0 3 ∧ Up w w3 from ⟨there_up H2.out.1 H2.out.2.2 u3, H2.out.2.1.trans u3⟩)
  have HO3 := Hid.of (HO.out.below u3)
  have hz3 : w.heap.size < w3.heap.size := Nat.lt_of_lt_of_le H2.out.2.2 u3.size
  clear u3 H2 HO
  dsimp only
  generalize (⟨nm.toArray⟩ : ByteArray) = name at *
  rcases name_val name with hn | hn
  rotate_left
  · have HR := Hid.of (show rdS l = none by rw [HR.out, if_pos (.inl (by rw [hn]; decide))])
    rw [hn]
    go_wp2_with (with_reducible show wpList _ _ _ ({ dst := _, op := Op.store 42 (.tmp 2) _, type := _, pos := _, after := _, guard := _ } :: _) _ _; refine Shut.out ?_)
    show wpList _ _ _ _ _ _
    refine wpList_store_mid rfl _ _ _ rfl w.heap.size 0 zs.toArray rfl rfl (by exact H3.out.1) infoS (all_oneCell_toArray zs_one) ?_
    simp only [Act.put]
    have hrg : (World.setCells w3 w.heap.size 0 zs.toArray.toList).rangeAt w.heap.size 0 zs := World.rangeAt_setCells_same _ _ _ _ (by exact H3.out.1)
    have HUZ := Hid.of (up_setCells (Nat.le_refl _) zs.toArray.toList 0 H3.out.2)
    generalize World.setCells w3 w.heap.size 0 zs.toArray.toList = WZ at *
    go_wp2_with fail
    refine bodyPost_ret (result_cell_tmp Tryd.results86 _ _ w.heap.size zs _ rfl rfl hrg Tryd.underlying42 rfl infoS) rfl ?_
    exact .inl ⟨HR.out, rfl, HUZ.out⟩
  have hn0 := hn
  rw [hn] at HR ⊢
  by_cases hbe : be = 0
  rotate_left
  · have hbe' : (be == 0) = false := by simpa using hbe
    have HR := Hid.of (show rdS l = none by rw [HR.out, if_pos (.inr (.inl hbe))])
    go_wp2_with (with_reducible show wpList _ _ _ ({ dst := _, op := Op.store 42 (.tmp 2) _, type := _, pos := _, after := _, guard := _ } :: _) _ _; refine Shut.out ?_)
    show wpList _ _ _ _ _ _
    refine wpList_store_mid rfl _ _ _ rfl w.heap.size 0 zs.toArray rfl rfl (by exact H3.out.1) infoS (all_oneCell_toArray zs_one) ?_
    simp only [Act.put]
    have hrg : (World.setCells w3 w.heap.size 0 zs.toArray.toList).rangeAt w.heap.size 0 zs := World.rangeAt_setCells_same _ _ _ _ (by exact H3.out.1)
    have HUZ := Hid.of (up_setCells (Nat.le_refl _) zs.toArray.toList 0 H3.out.2)
    generalize World.setCells w3 w.heap.size 0 zs.toArray.toList = WZ at *
    go_wp2_with fail
    refine bodyPost_ret (result_cell_tmp Tryd.results86 _ _ w.heap.size zs _ rfl rfl hrg Tryd.underlying42 rfl infoS) rfl ?_
    exact .inl ⟨HR.out, rfl, HUZ.out⟩
  subst hbe
  by_cases hn4 : nl ≤ 4
  · have hn4' : (nl : Int) ≤ 4 := by omega
    have HR := Hid.of (show rdS l = none by rw [HR.out, if_pos (.inr (.inr hn4))])
    clear hn4
    go_wp2_with (with_reducible show wpList _ _ _ ({ dst := _, op := Op.store 42 (.tmp 2) _, type := _, pos := _, after := _, guard := _ } :: _) _ _; refine Shut.out ?_)
    show wpList _ _ _ _ _ _
    refine wpList_store_mid rfl _ _ _ rfl w.heap.size 0 zs.toArray rfl rfl (by exact H3.out.1) infoS (all_oneCell_toArray zs_one) ?_
    simp only [Act.put]
    have hrg : (World.setCells w3 w.heap.size 0 zs.toArray.toList).rangeAt w.heap.size 0 zs := World.rangeAt_setCells_same _ _ _ _ (by exact H3.out.1)
    have HUZ := Hid.of (up_setCells (Nat.le_refl _) zs.toArray.toList 0 H3.out.2)
    generalize World.setCells w3 w.heap.size 0 zs.toArray.toList = WZ at *
    go_wp2_with fail
    refine bodyPost_ret (result_cell_tmp Tryd.results86 _ _ w.heap.size zs _ rfl rfl hrg Tryd.underlying42 rfl infoS) rfl ?_
    exact .inl ⟨HR.out, rfl, HUZ.out⟩
  have hn4' : ¬ (nl : Int) ≤ 4 := by omega
  replace HR := Hid.of (HR.out.trans (if_neg (by rintro (h | h | h) <;> first | exact h rfl | exact hn4 h)))
  obtain ⟨x0, x1, x2, x3, x4, r5, rfl⟩ : ∃ x0 x1 x2 x3 x4 r5, bl = x0 :: x1 :: x2 :: x3 :: x4 :: r5 := five (by omega)
  rw [List.drop_succ_cons, List.drop_succ_cons, List.drop_succ_cons, List.drop_succ_cons, List.drop_zero] at HR
  obtain ⟨g, rfl, hg0, hgl, hc0, hc1, hc2, hc3⟩ : ∃ g, av = some ⟨g, 0, none⟩ ∧ w.heap.size < g ∧ g < w3.heap.size ∧ w3.cell? ⟨g, 0, none⟩ = some (.int .u8 (x0.toNat : Int)) ∧ w3.cell? ⟨g, 1, none⟩ = some (.int .u8 (x1.toNat : Int)) ∧ w3.cell? ⟨g, 2, none⟩ = some (.int .u8 (x2.toNat : Int)) ∧ w3.cell? ⟨g, 3, none⟩ = some (.int .u8 (x3.toNat : Int)) := by
    rcases HO3.out.2 with ⟨e, _⟩ | ⟨g, cap, cur, e, hb, hg, _⟩
    · injection e with _ e2 _
      omega
    · injection e with e1 _ _
      have hcs := World.ownsRow.cells HO3.out (g := g) (by rw [e1]; rfl)
      refine ⟨g, e1, hb, (Array.getElem?_eq_some_iff.1 hg).1, ?_, ?_, ?_, ?_⟩
      · exact hcs 0 _ rfl
      · exact hcs 1 _ rfl
      · exact hcs 2 _ rfl
      · exact hcs 3 _ rfl
  have hsl : OwnN w3 w.heap.size (.slice (some ⟨g, 0, none⟩) nl cv) (x0 :: x1 :: x2 :: x3 :: x4 :: r5) := (HO3.out.base (Nat.le_succ _)).n (by simp)
  have har : ∀ w0, (Instr.arrayAt 152 (.slice (some ⟨g, 0, none⟩) nl cv)).run Tryd.prog w0 = .ok (.pointer (some ⟨g, 0, none⟩)) w0 := fun w0 => run_arrayAt w0 152 _ 4 _ nl cv Tryd.underlying152 (by omega)
  clear HO3
  have hgne : g ≠ w.heap.size := by omega
  go_wp2_with fail
  refine wp_region_held_drew (S := fun w2 => (w2.cell? ⟨g, 0, none⟩ = some (.int .u8 (x0.toNat : Int)) ∧ w2.cell? ⟨g, 1, none⟩ = some (.int .u8 (x1.toNat : Int)) ∧ w2.cell? ⟨g, 2, none⟩ = some (.int .u8 (x2.toNat : Int)) ∧ w2.cell? ⟨g, 3, none⟩ = some (.int .u8 (x3.toNat : Int))) ∧ w2.there w.heap.size 0 3 ∧ OwnN w2 w.heap.size (.slice (some ⟨g, 0, none⟩) nl cv) (x0 :: x1 :: x2 :: x3 :: x4 :: r5) ∧ Up w w2 ∧ w.heap.size < w2.heap.size) (by kernel_rfl) ⟨⟨hc0, hc1, hc2, hc3⟩, H3.out.1, hsl.up (Up.refl w3).drew, H3.out.2.drew, hz3⟩ (fun hS => ?_)
  clear hc0 hc1 hc2 hc3 hsl H3 hz3
  obtain ⟨sa, sn, sc, HSD⟩ : ∃ sa sn sc, Hid (sliced (some ⟨g, 0, none⟩) 4 nl cv 1 = .slice sa sn sc) := ⟨_, _, _, Hid.of rfl⟩
  refine wpAnyH_take (i := 0) (oi := { dst := some 43, op := Go.Op.move (Go.Operand.tmp 6), type := 9, pos := "note.go:116", after := #[], guard := none }) (v := .string name) rfl (by kernel_rfl) (by kernel_rfl) (by kernel_rfl) (fun _ _ _ h => h) (Or.inl ⟨by kernel_rfl, ?_⟩) hS ?_
  · intro w5 hSw
    clear hSw hS
    go_simp
  simp only [Act.put, List.setIfInBounds_toArray, List.set_cons_zero, List.set_cons_succ]
  refine wpAnyH_take (i := 1) (oi := { dst := some 44, op := Go.Op.move (Go.Operand.tmp 9), type := 22, pos := "note.go:116", after := #[], guard := none }) (v := .slice (some ⟨g, 0, none⟩) nl cv) rfl (by kernel_rfl) (by kernel_rfl) (by kernel_rfl) (fun _ _ _ h => h) (Or.inl ⟨by kernel_rfl, ?_⟩) hS ?_
  · intro w5 hSw
    clear hSw hS
    go_simp
  simp only [Act.put, List.setIfInBounds_toArray, List.set_cons_zero, List.set_cons_succ]
  refine wpAnyH_take (i := 2) (oi := { dst := some 45, op := Go.Op.sliceToArrayPointer 152 (Go.Operand.tmp 44), type := 0, pos := "note.go:116", after := #[{ on := 1, ground := Go.Ground.data }], guard := none }) (v := .pointer (some ⟨g, 0, none⟩)) rfl (by kernel_rfl) (by kernel_rfl) (by kernel_rfl) (fun _ _ _ h => h) (Or.inl ⟨by kernel_rfl, ?_⟩) hS ?_
  · intro w5 hSw
    clear hSw hS
    go_simp
  simp only [Act.put, List.setIfInBounds_toArray, List.set_cons_zero, List.set_cons_succ]
  refine wpAnyH_take (i := 3) (oi := { dst := some 46, op := Go.Op.load 152 (Go.Operand.tmp 45), type := 152, pos := "note.go:116", after := #[{ on := 2, ground := Go.Ground.data }], guard := none }) (v := .agg #[.int .u8 (x0.toNat : Int), .int .u8 (x1.toNat : Int), .int .u8 (x2.toNat : Int), .int .u8 (x3.toNat : Int)]) rfl (by kernel_rfl) (by kernel_rfl) (by kernel_rfl) (fun _ _ _ h => h) (Or.inl ⟨by kernel_rfl, ?_⟩) hS ?_
  · intro w5 hSw
    have h1 := hSw.1.1
    have h2 := hSw.1.2.1
    have h3 := hSw.1.2.2.1
    have h4 := hSw.1.2.2.2
    clear hSw
    go_simp
  simp only [Act.put, List.setIfInBounds_toArray, List.set_cons_zero, List.set_cons_succ]
  refine wpAnyH_take (i := 5) (oi := { dst := some 48, op := Go.Op.move (Go.Operand.tmp 9), type := 22, pos := "note.go:116", after := #[], guard := none }) (v := .slice (some ⟨g, 0, none⟩) nl cv) rfl (by kernel_rfl) (by kernel_rfl) (by kernel_rfl) (fun _ _ _ h => h) (Or.inl ⟨by kernel_rfl, ?_⟩) hS ?_
  · intro w5 hSw
    clear hSw hS
    go_simp
  simp only [Act.put, List.setIfInBounds_toArray, List.set_cons_zero, List.set_cons_succ]
  refine wpAnyH_take (i := 6) (oi := { dst := some 49, op := Go.Op.slice 22 (Go.Operand.tmp 48) (some (Go.Operand.const (Go.Value.int Go.IntKind.i64 4))) none none, type := 22, pos := "note.go:116", after := #[{ on := 5, ground := Go.Ground.data }], guard := none }) (v := .slice sa sn sc) rfl (by kernel_rfl) (by kernel_rfl) (by kernel_rfl) (fun _ _ _ h => h) (Or.inl ⟨by kernel_rfl, ?_⟩) hS ?_
  · intro w5 hSw
    clear hSw hS
    rw [← HSD.out]; go_simp <;> (intro h; exact absurd h (by omega))
  simp only [Act.put, List.setIfInBounds_toArray, List.set_cons_zero, List.set_cons_succ]
  refine wpAnyH_ready (rs := [4]) (by kernel_rfl) (by simp) ?_
  refine AllReadyH.cons (o := { dst := some 47, op := Go.Op.call { callee := Go.Callee.value (Go.Operand.func 105), args := #[Go.Operand.tmp 46], argTypes := #[152] }, type := 40, pos := "note.go:116", after := #[{ on := 3, ground := Go.Ground.data }], guard := none }) rfl (fun K hK => ?_) AllReadyH.nil
  rw [if_pos (by kernel_rfl)]
  go_simp
  refine (hashNumber_walk x0 x1 x2 x3 _).mono ?_
  rintro e w4 ⟨rfl, u⟩
  dsimp only
  obtain ⟨hh, HHH⟩ : ∃ hh, Hid (h4 [x0, x1, x2, x3] = hh) := ⟨_, Hid.of rfl⟩
  rw [HHH.out]
  have hS2 := (show (w4.cell? ⟨g, 0, none⟩ = some (.int .u8 (x0.toNat : Int)) ∧ w4.cell? ⟨g, 1, none⟩ = some (.int .u8 (x1.toNat : Int)) ∧ w4.cell? ⟨g, 2, none⟩ = some (.int .u8 (x2.toNat : Int)) ∧ w4.cell? ⟨g, 3, none⟩ = some (.int .u8 (x3.toNat : Int))) ∧ w4.there w.heap.size 0 3 ∧ OwnN w4 w.heap.size (.slice (some ⟨g, 0, none⟩) nl cv) (x0 :: x1 :: x2 :: x3 :: x4 :: r5) ∧ Up w w4 ∧ w.heap.size < w4.heap.size from ⟨⟨u.cell hS.1.1, u.cell hS.1.2.1, u.cell hS.1.2.2.1, u.cell hS.1.2.2.2⟩, there_up hS.2.1 hS.2.2.2.2 u, hS.2.2.1.up u, hS.2.2.2.1.trans u, Nat.lt_of_lt_of_le hS.2.2.2.2 u.size⟩)
  clear hS u
  refine hK.out _ _ hS2 (fun hS => ?_)
  clear hK hS2 K
  refine wpAnyH_take (i := 7) (oi := { dst := some 50, op := Go.Op.build 42 #[(0, Go.Operand.tmp 43), (1, Go.Operand.tmp 47), (2, Go.Operand.tmp 49)], type := 42, pos := "note.go:116", after := #[{ on := 0, ground := Go.Ground.data }, { on := 4, ground := Go.Ground.data }, { on := 6, ground := Go.Ground.data }], guard := none }) (v := .agg #[.string name, .int .u32 (hh : Int), .slice sa sn sc]) rfl (by kernel_rfl) (by kernel_rfl) (by kernel_rfl) (fun _ _ _ h => h) (Or.inl ⟨by kernel_rfl, ?_⟩) hS ?_
  · intro w5 hSw
    clear hSw hS
    go_simp
  simp only [Act.put, List.setIfInBounds_toArray, List.set_cons_zero, List.set_cons_succ]
  refine wpAnyH_ready (rs := [8]) (by kernel_rfl) (by simp) ?_
  refine AllReadyH.cons (o := { dst := none, op := Go.Op.store 42 (Go.Operand.tmp 2) (Go.Operand.tmp 50), type := 0, pos := "note.go:116", after := #[{ on := 7, ground := Go.Ground.data }, { on := 4, ground := Go.Ground.chain }, { on := 0, ground := Go.Ground.phase }, { on := 1, ground := Go.Ground.phase }, { on := 2, ground := Go.Ground.phase }, { on := 3, ground := Go.Ground.phase }, { on := 4, ground := Go.Ground.phase }, { on := 5, ground := Go.Ground.phase }, { on := 6, ground := Go.Ground.phase }, { on := 7, ground := Go.Ground.phase }], guard := none }) rfl (fun K hK => ?_) AllReadyH.nil
  rw [if_pos (by kernel_rfl)]
  refine wp_store_mid _ _ _ rfl w.heap.size 0 #[.string name, .int .u32 (hh : Int), .slice sa sn sc] rfl rfl (by exact hS.2.1) infoS (by simp [Value.oneCell']) ?_
  simp only [Act.put]
  have hgl : ∀ j, (w4.setCells w.heap.size 0 [.string name, .int .u32 (hh : Int), .slice sa sn sc]).cell? ⟨g, j, none⟩ = w4.cell? ⟨g, j, none⟩ := fun j => World.cell?_setCells_out _ _ _ _ _ (fun e => absurd e hgne)
  have hS2 := (show ((w4.setCells w.heap.size 0 [.string name, .int .u32 (hh : Int), .slice sa sn sc]).cell? ⟨g, 0, none⟩ = some (.int .u8 (x0.toNat : Int)) ∧ (w4.setCells w.heap.size 0 [.string name, .int .u32 (hh : Int), .slice sa sn sc]).cell? ⟨g, 1, none⟩ = some (.int .u8 (x1.toNat : Int)) ∧ (w4.setCells w.heap.size 0 [.string name, .int .u32 (hh : Int), .slice sa sn sc]).cell? ⟨g, 2, none⟩ = some (.int .u8 (x2.toNat : Int)) ∧ (w4.setCells w.heap.size 0 [.string name, .int .u32 (hh : Int), .slice sa sn sc]).cell? ⟨g, 3, none⟩ = some (.int .u8 (x3.toNat : Int))) ∧ (w4.setCells w.heap.size 0 [.string name, .int .u32 (hh : Int), .slice sa sn sc]).there w.heap.size 0 3 ∧ OwnN (w4.setCells w.heap.size 0 [.string name, .int .u32 (hh : Int), .slice sa sn sc]) w.heap.size (.slice (some ⟨g, 0, none⟩) nl cv) (x0 :: x1 :: x2 :: x3 :: x4 :: r5) ∧ Up w (w4.setCells w.heap.size 0 [.string name, .int .u32 (hh : Int), .slice sa sn sc]) ∧ w.heap.size < (w4.setCells w.heap.size 0 [.string name, .int .u32 (hh : Int), .slice sa sn sc]).heap.size from
    ⟨⟨(hgl 0).trans hS.1.1, (hgl 1).trans hS.1.2.1, (hgl 2).trans hS.1.2.2.1, (hgl 3).trans hS.1.2.2.2⟩, World.there_setCells hS.2.1 _ _ _, hS.2.2.1.setC (fun e => hgne (by injection e)), up_setCells (Nat.le_refl _) _ 0 hS.2.2.2.1, by rw [setCells_size]; exact hS.2.2.2.2⟩)
  have HRG := Hid.of (World.rangeAt_setCells_same w4 w.heap.size 0 [.string name, .int .u32 (hh : Int), .slice sa sn sc] hS.2.1)
  clear hS hgl
  generalize w4.setCells w.heap.size 0 [.string name, .int .u32 (hh : Int), .slice sa sn sc] = w6 at *
  refine hK.out _ _ hS2 (fun hS => ?_)
  clear hK hS2 K
  refine wpAnyH_ready (rs := [9]) (by kernel_rfl) (by simp) ?_
  refine AllReadyH.cons (o := { dst := some 3, op := Go.Op.assign (Go.Operand.const (Go.Value.bool true)), type := 4, pos := "note.go:116", after := #[{ on := 8, ground := Go.Ground.chain }, { on := 0, ground := Go.Ground.phase }, { on := 1, ground := Go.Ground.phase }, { on := 2, ground := Go.Ground.phase }, { on := 3, ground := Go.Ground.phase }, { on := 4, ground := Go.Ground.phase }, { on := 5, ground := Go.Ground.phase }, { on := 6, ground := Go.Ground.phase }, { on := 7, ground := Go.Ground.phase }, { on := 8, ground := Go.Ground.phase }], guard := none }) rfl (fun K hK => ?_) AllReadyH.nil
  rw [if_pos (by kernel_rfl)]
  go_simp
  refine hK.out _ _ hS (fun hS2 => ?_)
  clear hS2 hK K
  have HZ := Hid.of hS.2.2
  clear hS
  refine wpAnyH_done (by kernel_rfl) ?_ _
  go_wp2_with fail
  refine bodyPost_ret (result_cell_tmp Tryd.results86 _ _ w.heap.size [.string name, .int .u32 (hh : Int), .slice sa sn sc] _ rfl rfl HRG.out Tryd.underlying42 rfl infoS) rfl ?_
  have hn4 : OwnN w6 w.heap.size (.slice sa sn sc) (x4 :: r5) := by
    have := HZ.out.1.drop (k := 4) (by simp)
    rw [HSD.out] at this
    exact this
  have hs4 : Sl w6 (.slice sa sn sc) (x4 :: r5) := hn4.sl
  obtain rfl : sn = (x4 :: r5).length := by
    obtain ⟨a', c', e, _⟩ := hs4
    injection e
  have hbk : ∀ b, (Value.slice sa (x4 :: r5).length sc).ownBlock = some b → w.heap.size ≤ b ∧ b < w6.heap.size := by
    intro b hb
    have h1 : ∃ o, sa = some ⟨g, o, none⟩ := by
      have := HSD.out
      unfold sliced at this
      injection this with e1 _ _
      split at e1
      · exact ⟨_, e1.symm⟩
      · rw [Option.map_some, add_plain] at e1
        exact ⟨_, e1.symm⟩
    obtain ⟨o, rfl⟩ := h1
    injection hb with hb
    subst hb
    obtain ⟨a', c', e, _, h⟩ := hs4
    rcases h with h | ⟨b', off, e2, hb, _⟩
    · cases h
    · injection e with e1 _ _
      rw [e2] at e1
      injection e1 with e1
      injection e1 with e1 _ _
      exact ⟨Nat.le_of_lt hg0, by rw [e1]; exact hb⟩
  refine .inr ⟨⟨name, hh, x4 :: r5⟩, sa, sc, ?_, rfl, hs4, hbk, HZ.out.2.1, hn4⟩
  rw [HR.out, ← HHH.out]
  rfl
end
section
open Go.RowKit TextNum
/-- a list of signatures of one's own, each one's bytes too -/
def OwnL (w : World) (B : Nat) (v : Value) (qs : List (Sg × Option Addr × Nat)) : Prop := OwnG w B 42 v qs ∧ (∀ q, q ∈ qs → OwnN w B (qv q) q.1.bytes) ∧ qs.Pairwise (fun a b => ∀ k, (qv a).ownBlock = some k → (qv b).ownBlock ≠ some k)
theorem OwnN.base {w : World} {B B' : Nat} {v : Value} {l : List UInt8} (h : OwnN w B v l) (hB : B' ≤ B) : OwnN w B' v l := by
  obtain ⟨g, off, cap, cur, fr, e, hb, r⟩ := h
  exact ⟨g, off, cap, cur, fr, e, Nat.le_trans hB hb, r⟩
theorem OwnG.base {w : World} {B B' : Nat} {e : TypeId} {v : Value} {qs : List (Sg × Option Addr × Nat)} (h : OwnG w B e v qs) (hB : B' ≤ B) : OwnG w B' e v qs := by
  refine ⟨⟨h.1.1, ?_⟩, h.2⟩
  rcases h.1.2 with h | ⟨g, cap, cur, e, hb, r⟩
  · exact .inl h
  · exact .inr ⟨g, cap, cur, e, Nat.le_trans hB hb, r⟩
theorem OwnL.base {w : World} {B B' : Nat} {v : Value} {qs : List (Sg × Option Addr × Nat)} (h : OwnL w B v qs) (hB : B' ≤ B) : OwnL w B' v qs := ⟨h.1.base hB, fun q hq => (h.2.1 q hq).base hB, h.2.2⟩
theorem OwnL.up {w w' : World} {B : Nat} {v : Value} {qs : List (Sg × Option Addr × Nat)} (h : OwnL w B v qs) (u : Up w w') : OwnL w' B v qs := ⟨h.1.up u, fun q hq => (h.2.1 q hq).up u, h.2.2⟩
theorem ownL_nil (w : World) (B : Nat) : OwnL w B (.slice none 0 0) [] := ⟨⟨World.ownsRow_nil w B 42 3, by simp⟩, by simp, List.Pairwise.nil⟩
/-- what readSigLines answers -/
def RL (l : List UInt8) (w : World) (e : Ending) (w' : World) : Prop :=
  (e = .returned (.tuple #[.slice none 0 0, .bool false]) ∧ (¬ ∃ ss, Tl l ss) ∧ Up w w') ∨ ∃ v qs, e = .returned (.tuple #[v, .bool true]) ∧ Tl l (qs.map (·.1)) ∧ OwnL w' w.heap.size v qs ∧ Up w w'
theorem map_some7 {ls : List (List UInt8)} {ss : List Sg} (h : rdL ls ss) : ∀ l, l ∈ ls → rdS l ≠ none := by
  intro l hl e
  have : rdS l ∈ ls.map rdS := List.mem_map.2 ⟨l, hl, rfl⟩
  rw [h, e] at this
  simp at this
theorem linesOf_le (l x : List UInt8) (h : x ∈ linesOf l) (h0 : lnE l = 0) : x.length ≤ 1048576 := by
  have hj : joinL (linesOf l) = l ∧ l.length ≤ 1048576 := by
    unfold lnE at h0
    split at h0
    · cases h0
    · rename_i hl
      split at h0
      · exact ⟨join_lines _ (by assumption), by omega⟩
      · cases h0
  have : ∀ (xs : List (List UInt8)), x ∈ xs → x.length ≤ (joinL xs).length := by
    intro xs
    induction xs with
    | nil => intro h; cases h
    | cons y r ih =>
      intro h
      rw [joinL_cons, List.length_append, List.length_cons]
      rcases List.mem_cons.1 h with rfl | h
      · omega
      · have := ih h; omega
  have := this _ h
  rw [hj.1] at this
  omega
set_option maxRecDepth 100000 in
set_option maxHeartbeats 2000000 in
theorem readSigLines_walk (s : ByteArray) (w : World) (hT : TabL w) (hW : Go.Lib.WhiteTab 3 w) :
    Calls Tryd.prog 62 #[.string s] w (RL s.data.toList w) := by
  have HT := Hid.of hT
  have HW := Hid.of hW
  clear hT hW
  go_enter Tryd.func62, Tryd.ntmps62
  go_wp2_with fail
  refine (Lines_walk s w).mono ?_
  rintro e w1 ⟨v1, rfl, hv1, hv2, u1⟩
  generalize s.data.toList = l at *
  have H1 := Hid.of u1
  clear u1
  dsimp only
  by_cases h0 : lnE l = 0
  rotate_left
  · have HN := Hid.of (show ¬ ∃ ss, Tl l ss from fun ⟨ss, h⟩ => h0 h.1)
    obtain rfl := hv1 h0
    have h0' : (lnE l == 0) = false := by simpa using h0
    clear hv1 hv2
    generalize lnE l = er at *
    go_wp2
    go_ret2
    exact .inl ⟨rfl, HN.out, H1.out⟩
  have hO := hv2 h0
  clear hv1 hv2
  rw [h0]
  have HLL := Hid.of (fun x h => linesOf_le l x h h0)
  have HTl := Hid.of (show ∀ ss, Tl l ss ↔ linesOf l ≠ [] ∧ (linesOf l).length ≤ 16 ∧ rdL (linesOf l) ss from fun ss => ⟨fun h => h.2, fun h => ⟨h0, h⟩⟩)
  clear h0
  generalize linesOf l = ls at *
  obtain ⟨n, hn⟩ : ∃ n, ls.length = n := ⟨_, rfl⟩
  by_cases hn0 : n = 0
  · have hls : ls = [] := List.length_eq_zero_iff.1 (by omega)
    have HN := Hid.of (show ¬ ∃ ss, Tl l ss from fun ⟨ss, h⟩ => ((HTl.out ss).1 h).1 hls)
    obtain ⟨va, vc, rfl⟩ : ∃ va vc, v1 = .slice va 0 vc := by
      rcases hO.2 with ⟨rfl, _⟩ | ⟨g, cap, cur, rfl, _⟩
      · exact ⟨_, _, rfl⟩
      · rw [hn, hn0]; exact ⟨_, _, rfl⟩
    clear hO
    go_wp2
    go_ret2
    exact .inl ⟨rfl, HN.out, H1.out⟩
  obtain ⟨g, c, rfl, hgb, hcs⟩ := hO.cell (by rintro rfl; exact hn0 hn.symm)
  rw [hn]
  have HC := Hid.of hcs
  clear hO hcs
  have hn0' : ((n : Int) == 0) = false := by simpa using hn0
  by_cases h16 : 16 < n
  · have h16' : (16 : Int) < (n : Int) := by omega
    have HN := Hid.of (show ¬ ∃ ss, Tl l ss from fun ⟨ss, h⟩ => by have := ((HTl.out ss).1 h).2.1; omega)
    go_wp2
    go_ret2
    exact .inl ⟨rfl, HN.out, H1.out⟩
  have h16' : ¬ (16 : Int) < (n : Int) := by omega
  go_wp2_with (with_reducible show wpList _ _ _ ({ dst := _, op := Op.makeSlice 39 _ _, type := _, pos := _, after := _, guard := _ } :: _) _ _; refine Shut.out ?_)
  show wpList _ _ _ _ _ _
  refine wpList_mkG rfl _ _ rfl _ _ _ n rfl rfl rfl (by omega) ?_
  intro w2 hO2 u2
  simp only [Act.put, List.setIfInBounds_toArray, List.set_cons_zero, List.set_cons_succ]
  have H2 := Hid.of (And.intro hO2 u2)
  clear hO2 u2
  go_wp2
  go_loopw [6, 33] (fun v6 v33 wr => ∃ i : Nat, v33 = .int .i64 (i : Int) ∧ i ≤ n ∧ Hid (∃ qs, OwnL wr w1.heap.size v6 qs ∧ (ls.take i).map rdS = (qs.map (·.1)).map some ∧ qs.length = i ∧ Up w1 wr)) (fun _ v33 _ => n - (intOf v33).toNat)
  case atStart => exact ⟨0, rfl, by omega, [], ⟨H2.out.1, by simp, List.Pairwise.nil⟩, by simp, rfl, H2.out.2⟩
  case round =>
    obtain ⟨i, rfl, hi, hI⟩ := hrel
    obtain ⟨qs, hI1, hI2, hI3, hI4⟩ := hI.out
    have HI := Hid.of (And.intro hI1 (And.intro hI2 (And.intro hI3 hI4)))
    clear hI hI1 hI2 hI3 hI4
    by_cases hlt : i < n
    · have hlt' : (i : Int) < (n : Int) := by omega
      have hltS : i < ls.length := by omega
      have k1 := HI.out.2.2.2.cell (HC.out i hltS)
      have HX := Hid.of (List.take_succ_eq_append_getElem hltS)
      have HM := Hid.of (List.getElem_mem hltS)
      generalize ls[i] = x at *
      go_wp2_with fail
      refine (readSigLine_walk ⟨x.toArray⟩ (by rw [Go.Lib.size_eq]; exact HLL.out x HM.out) wr (HT.out.up (H1.out.trans HI.out.2.2.2)) (WhiteTab_up HW.out (H1.out.trans HI.out.2.2.2))).mono ?_
      rintro e w3 hA
      rw [show (⟨x.toArray⟩ : ByteArray).data.toList = x from rfl] at hA
      rcases hA with ⟨hr, rfl, u3⟩ | ⟨y, a3, c3, hr, rfl, hs3, hb3, u3, hn3⟩
      · have HN := Hid.of (show (¬ ∃ ss, Tl l ss) ∧ Up w w3 from ⟨fun ⟨ss, h⟩ => map_some7 ((HTl.out ss).1 h).2.2 x HM.out hr, (H1.out.trans HI.out.2.2.2).trans u3⟩)
        clear u3 hr k1
        dsimp only
        go_wp2
        go_ret2
        exact .inl ⟨rfl, HN.out.1, HN.out.2.alloc _⟩
      · have H3 := Hid.of (And.intro hr (And.intro hs3 (And.intro hb3 u3)))
        have HN3 := Hid.of hn3
        clear hr hs3 hb3 u3 k1 hn3
        obtain ⟨nb, hnb⟩ : ∃ nb, y.bytes.length = nb := ⟨_, rfl⟩
        rw [hnb]
        dsimp only
        go_wp2_with (with_reducible show wpList _ _ _ ({ dst := _, op := Op.call { callee := Callee.builtin Builtin.append, args := _, argTypes := _ }, type := _, pos := _, after := _, guard := _ } :: _) _ _; refine Shut.out ?_)
        show wpList _ _ _ _ _ _
        subst hnb
        have UU := Hid.of (((Up.refl w3).alloc (.cells #[.string y.name, .int .u32 (y.hash : Int), .slice a3 y.bytes.length c3] 42)).alloc (.cells #[.string y.name, .int .u32 (y.hash : Int), .slice a3 y.bytes.length c3] 42))
        refine wpList_appG2 sgT1 rfl _ _ rfl w1.heap.size _ qs (y, a3, c3) rfl (by exact (HI.out.1.1.up H3.out.2.2.2).up UU.out) ⟨w3.heap.size + 1, 0, none⟩ 1 rfl ?_ (by exact H3.out.2.1.up UU.out) ?_ (by have := HI.out.2.2.1; omega) (Nat.le_trans (HI.out.2.2.2.trans H3.out.2.2.2).size UU.out.size) ?_
        · intro j u hj
          have := cells_new (w3.alloc (.cells #[.string y.name, .int .u32 (y.hash : Int), .slice a3 y.bytes.length c3] 42)) 42 (qc (y, a3, c3)) j u hj
          rw [show (w3.alloc (.cells #[.string y.name, .int .u32 (y.hash : Int), .slice a3 y.bytes.length c3] 42)).heap.size = w3.heap.size + 1 by simp] at this
          exact this
        · intro b hb
          have h1 := H3.out.2.2.1 b hb
          refine ⟨Nat.lt_of_lt_of_le h1.2 UU.out.size, fun h2 => ?_⟩
          have := (World.ownsRow.lt HI.out.1.1.1 b h2).2
          omega
        intro v7 w7 hO7 b7 g7
        simp only [Act.put, List.setIfInBounds_toArray, List.set_cons_zero, List.set_cons_succ]
        have hOL : OwnL w7 w1.heap.size v7 (qs ++ [(y, a3, c3)]) := by
          have hold := (HI.out.1.up H3.out.2.2.2).up UU.out
          refine ⟨hO7, fun q hq => ?_, ?_⟩
          · rcases List.mem_append.1 hq with hq | hq
            · exact (hold.2.1 q hq).by g7 (fun r hr hb => ((hold.1.2 q hq).2 r hb).2 hr)
            · obtain rfl := List.mem_singleton.1 hq
              refine ((HN3.out.up UU.out).base HI.out.2.2.2.size).by g7 (fun r hr hb => ?_)
              have h1 := (H3.out.2.2.1 r hb).1
              have h2 := (World.ownsRow.lt HI.out.1.1.1 r hr).2
              omega
          · rw [List.pairwise_append]
            refine ⟨hold.2.2, List.pairwise_singleton _ _, fun q hq q' hq' k hk hk' => ?_⟩
            obtain rfl := List.mem_singleton.1 hq'
            have h1 := (H3.out.2.2.1 k hk').1
            have h2 := ((HI.out.1.1.2 q hq).2 k hk).1
            omega
        have HN := Hid.of (show ∃ qs, OwnL w7 w1.heap.size v7 qs ∧ (ls.take (i + 1)).map rdS = (qs.map (·.1)).map some ∧ qs.length = i + 1 ∧ Up w1 w7 from ⟨qs ++ [(y, a3, c3)], hOL, by
          rw [HX.out, List.map_append, HI.out.2.1, List.map_append, List.map_append]
          simp [H3.out.1], by rw [List.length_append, HI.out.2.2.1]; rfl, ((HI.out.2.2.2.trans H3.out.2.2.2).trans UU.out).step (Nat.le_refl _) b7⟩)
        clear hO7 b7 g7 hOL UU H3 HX HN3
        generalize y.bytes.length = nb
        go_wp2
        go_roundw
        case rel => exact ⟨i + 1, by go_num, by omega, HN⟩
        case measure => simp [intOf]; omega
    · have hlt' : ¬ (i : Int) < (n : Int) := by omega
      have hin : i = ls.length := by omega
      go_wp2
      go_ret2
      refine .inr ⟨_, qs, rfl, (HTl.out (qs.map (·.1))).2 ⟨fun e => hn0 (by rw [← hn, e]; rfl), by omega, ?_⟩, by exact HI.out.1.base H1.out.size, H1.out.trans HI.out.2.2.2⟩
      have := HI.out.2.1
      rwa [hin, List.take_length] at this
end
section
open Go.RowKit TextNum
/-- what Split answers -/
def SA (m : List UInt8) (w : World) (e : Ending) (w' : World) : Prop := ∃ t v ss er, e = .returned (.tuple #[.string t, v, .int .i64 er]) ∧ SR m t ss er ∧ SigL w' v ss ∧ Up w w'
def SA2 (m : List UInt8) (w : World) (e : Ending) (w' : World) : Prop := ∃ t v qs er, e = .returned (.tuple #[.string t, v, .int .i64 er]) ∧ SR m t (qs.map (·.1)) er ∧ OwnL w' w.heap.size v qs ∧ Up w w' ∧ (er ≠ 0 → t = ⟨#[]⟩ ∧ v = .slice none 0 0 ∧ qs = [])
theorem SA2.sa {m : List UInt8} {w : World} {e : Ending} {w' : World} (h : SA2 m w e w') : SA m w e w' := by
  obtain ⟨t, v, qs, er, h1, h2, h3, h4, _⟩ := h
  exact ⟨t, v, qs.map (·.1), er, h1, h2, h3.1.sigL, h4⟩
theorem sigL_nil (w : World) : SigL w (.slice none 0 0) [] := ⟨none, 0, rfl, Nat.le_refl _, .inl rfl⟩
open Classical in
set_option maxRecDepth 100000 in
set_option maxHeartbeats 2000000 in
theorem Split_walk2 (v : Value) (m : List UInt8) (w : World) (hS : Sl w v m) (hT : TabL w) (hW : Go.Lib.WhiteTab 3 w) :
    Calls Tryd.prog 25 #[v] w (SA2 m w) := by
  have HT := Hid.of hT
  have HW := Hid.of hW
  have HC := Hid.of (conv_sl hS)
  clear hT hW
  obtain ⟨a, c, rfl, hc, hS⟩ := hS
  obtain ⟨n, hn⟩ : ∃ n, m.length = n := ⟨_, rfl⟩
  rw [hn] at hc HC ⊢
  clear hS
  go_enter Tryd.func25, Tryd.ntmps25
  by_cases hL : 65536 < n
  · have hL' : (65536 : Int) < (n : Int) := by omega
    go_wp2
    go_ret3
    exact ⟨_, _, [], _, rfl, .inl ⟨rfl, by omega⟩, ownL_nil _ _, Up.refl _, fun _ => ⟨rfl, rfl, rfl⟩⟩
  have hL' : ¬ (65536 : Int) < (n : Int) := by omega
  have hcv := HC.out
  rw [show vs m = .string ⟨m.toArray⟩ from rfl] at hcv
  go_wp2_with fail
  refine (Cut_walk ⟨m.toArray⟩ w).mono ?_
  rintro e w1 ⟨r, rfl, hr, u1⟩
  have HSz := Hid.of (show (⟨m.toArray⟩ : ByteArray).size = n by rw [Go.Lib.size_eq]; exact hn)
  rcases hr with ⟨rfl, hno⟩ | ⟨i, rfl, _, hi, hb, hlast⟩
  · have HN := Hid.of (show (¬ ∃ t ss, Spl m t ss) ∧ Up w w1 from ⟨fun ⟨t, ss, j, hj, _⟩ => by
      rcases hno with h | h
      · have := HSz.out; omega
      · exact h j hj, u1⟩)
    clear hno u1
    dsimp only
    go_wp2
    go_ret3
    exact ⟨_, _, [], _, rfl, .inr (.inl ⟨rfl, by omega, HN.out.1⟩), ownL_nil _ _, HN.out.2, fun _ => ⟨rfl, rfl, rfl⟩⟩
  have e1 : (⟨m.toArray⟩ : ByteArray).extract 0 (i + 1) = ⟨(m.take (i + 1)).toArray⟩ := by
    refine ba_list7 ?_
    simp [ByteArray.data_extract]
  have e2 : (⟨m.toArray⟩ : ByteArray).extract (i + 2) (⟨m.toArray⟩ : ByteArray).size = ⟨(m.drop (i + 2)).toArray⟩ := by
    refine ba_list7 ?_
    rw [HSz.out]
    simp only [ByteArray.data_extract, List.extract_toArray, ← hn]
    rw [List.extract_eq_take_drop, List.take_of_length_le (by rw [List.length_drop]; omega)]
  rw [e1, e2]
  rw [HSz.out] at hi
  rw [show (⟨m.toArray⟩ : ByteArray).data.toList = m from rfl] at hb hlast
  clear e1 e2
  have HB := Hid.of (show (∀ t ss, Spl m t ss ↔ t.data.toList = m.take (i + 1) ∧ okT t ∧ Tl (m.drop (i + 2)) ss) ∧ Up w w1 from ⟨fun t ss => ⟨fun ⟨j, hj, hl, r⟩ => by
      obtain rfl : i = j := by
        rcases Nat.lt_trichotomy i j with h | h | h
        · exact absurd hj (hlast _ h)
        · exact h
        · exact absurd hb (hl _ h)
      exact r, fun r => ⟨i, hb, hlast, r⟩⟩, u1⟩)
  clear hb hlast u1
  obtain ⟨t, HTT⟩ : ∃ t, Hid ((⟨(m.take (i + 1)).toArray⟩ : ByteArray) = t ∧ t.data.toList = m.take (i + 1)) := ⟨_, Hid.of ⟨rfl, rfl⟩⟩
  rw [HTT.out.1]
  dsimp only
  go_wp2_with fail
  refine (isNoteText_walk t (by rw [Go.Lib.size_eq, HTT.out.2, List.length_take]; omega) w1).mono ?_
  rintro e w2 ⟨rfl, u2⟩
  have H2 := Hid.of (HB.out.2.trans u2)
  clear u2
  by_cases hk : okT t
  rotate_left
  · rw [decide_eq_false hk]
    have HN := Hid.of (show ¬ ∃ t ss, Spl m t ss from fun ⟨t', ss, h⟩ => by
      have h3 := (HB.out.1 t' ss).1 h
      obtain rfl : t' = t := ba_list7 (h3.1.trans HTT.out.2.symm)
      exact hk h3.2.1)
    clear hk
    dsimp only
    go_wp2
    go_ret3
    exact ⟨_, _, [], _, rfl, .inr (.inl ⟨rfl, by omega, HN.out⟩), ownL_nil _ _, H2.out, fun _ => ⟨rfl, rfl, rfl⟩⟩
  rw [decide_eq_true hk]
  have HK := Hid.of hk
  clear hk
  obtain ⟨tl, HTL⟩ : ∃ tl, Hid ((⟨(m.drop (i + 2)).toArray⟩ : ByteArray) = tl ∧ tl.data.toList = m.drop (i + 2)) := ⟨_, Hid.of ⟨rfl, rfl⟩⟩
  rw [HTL.out.1]
  dsimp only
  go_wp2_with fail
  refine (readSigLines_walk tl w2 (HT.out.up H2.out) (WhiteTab_up HW.out H2.out)).mono ?_
  rintro e w3 hA
  rw [HTL.out.2] at hA
  rcases hA with ⟨rfl, hno, u3⟩ | ⟨v3, qs, rfl, htl, hsl, u3⟩
  · have HN := Hid.of (show (¬ ∃ t ss, Spl m t ss) ∧ Up w w3 from ⟨fun ⟨t', ss, h⟩ => hno ⟨ss, ((HB.out.1 t' ss).1 h).2.2⟩, H2.out.trans u3⟩)
    clear hno u3
    dsimp only
    go_wp2
    go_ret3
    exact ⟨_, _, [], _, rfl, .inr (.inl ⟨rfl, by omega, HN.out.1⟩), ownL_nil _ _, HN.out.2, fun _ => ⟨rfl, rfl, rfl⟩⟩
  · have HN := Hid.of (show Spl m t (qs.map (·.1)) ∧ OwnL w3 w.heap.size v3 qs ∧ Up w w3 from ⟨(HB.out.1 t _).2 ⟨HTT.out.2, HK.out, htl⟩, hsl.base H2.out.size, H2.out.trans u3⟩)
    clear htl hsl u3
    dsimp only
    go_wp2
    go_ret3
    exact ⟨_, _, qs, _, rfl, .inr (.inr ⟨rfl, by omega, HN.out.1⟩), by exact HN.out.2.1, HN.out.2.2, fun h => absurd rfl h⟩
theorem Split_walk (v : Value) (m : List UInt8) (w : World) (hS : Sl w v m) (hT : TabL w) (hW : Go.Lib.WhiteTab 3 w) :
    Calls Tryd.prog 25 #[v] w (SA m w) := (Split_walk2 v m w hS hT hW).mono fun _ _ h => h.sa
end
section
open Go.RowKit TextNum
set_option maxRecDepth 100000 in
theorem num7 (n : Int) (w : World) : Calls Tryd.prog 20 #[.int .i64 n] w fun e w' => e = .returned (.int .i64 n) ∧ w' = w := by
  go_enter Tryd.func20, Tryd.ntmps20
  go_wp2
  go_ret
  exact ⟨rfl, rfl⟩
theorem last_get (s : ByteArray) (h : 0 < s.size) : s.data.toList.getLast? = some 10 ↔ ((s[s.size - 1]'(by omega)).toNat : Int) = 10 := by
  rw [sget', List.getLast?_eq_getElem?]
  have e : s.size = s.data.toList.length := Go.Lib.size_eq s
  have hl : s.data.toList.length - 1 < s.data.toList.length := by omega
  rw [List.getElem?_eq_getElem hl, Option.some.injEq]
  have e2 : s.data.toList[s.size - 1]'(by omega) = s.data.toList[s.data.toList.length - 1] := rfl
  rw [e2]
  constructor
  · intro h; rw [h]; rfl
  · intro h; apply UInt8.toNat_inj.1; have : (10 : UInt8).toNat = 10 := rfl; omega
def TX : ByteArray := ⟨#[116, 101, 120, 116, 10]⟩
theorem plain_TX : plainR TX = 0 := by decide +kernel
def PTX (s t : ByteArray) : Prop := (s.size ≤ 4000 ∧ okT s ∧ t = s) ∨ (¬ (s.size ≤ 4000 ∧ okT s) ∧ t = TX)
theorem ptx_ex (s : ByteArray) : ∃ t, PTX s t := by
  by_cases h : s.size ≤ 4000 ∧ okT s
  · exact ⟨s, .inl ⟨h.1, h.2, rfl⟩⟩
  · exact ⟨TX, .inr ⟨h, rfl⟩⟩
theorem ptx_ok {s t : ByteArray} (h : PTX s t) : okT t ∧ t.size ≤ 4000 := by
  rcases h with ⟨h1, h2, rfl⟩ | ⟨_, rfl⟩
  · exact ⟨h2, h1⟩
  · exact ⟨⟨rfl, plain_TX⟩, by decide⟩
theorem ptx_no {s t : ByteArray} (h : PTX s t) (hn : ¬ (s.size ≤ 4000 ∧ okT s)) : TX = t := by
  rcases h with ⟨h1, h2, _⟩ | ⟨_, rfl⟩
  · exact absurd ⟨h1, h2⟩ hn
  · rfl
theorem ptx_yes {s t : ByteArray} (h : PTX s t) (hy : s.size ≤ 4000 ∧ okT s) : s = t := by
  rcases h with ⟨_, _, rfl⟩ | ⟨h, _⟩
  · rfl
  · exact absurd hy h
set_option maxRecDepth 100000 in
set_option maxHeartbeats 1000000 in
theorem plainText_walk (s t : ByteArray) (hs : s.size ≤ 140737488355328) (ht : PTX s t) (w : World) : Calls Tryd.prog 24 #[.string s] w fun e w' => e = .returned (.string t) ∧ Up w w' := by
  have HT := Hid.of ht
  clear ht
  go_enter Tryd.func24, Tryd.ntmps24
  by_cases h4 : 4000 < s.size
  · have h4' : (4000 : Int) < (s.size : Int) := by omega
    go_wp2
    go_ret
    exact ⟨by rw [← ptx_no HT.out (by omega)]; rfl, Up.refl _⟩
  have h4' : ¬ (4000 : Int) < (s.size : Int) := by omega
  by_cases h0 : s.size = 0
  · obtain rfl := szero h0
    go_wp2
    go_ret
    exact ⟨by rw [← ptx_no HT.out (fun h => by have := h.2.1; cases this)]; rfl, Up.refl _⟩
  have h0' := eno h0
  have hw : IntKind.i64.wrap ((s.size : Int) - 1) = ((s.size - 1 : Nat) : Int) := by
    simp only [IntKind.wrap, IntKind.signed, IntKind.bits]; simp; omega
  have HL := Hid.of (last_get s (by omega))
  by_cases hx : ((s[s.size - 1]'(by omega)).toNat : Int) = 10
  rotate_left
  · have HX := Hid.of (show ¬ okT s from fun h => hx (HL.out.1 h.1))
    go_wp2
    go_ret
    exact ⟨by rw [← ptx_no HT.out (fun h => HX.out h.2)]; rfl, Up.refl _⟩
  have HX := Hid.of (HL.out.2 hx)
  go_wp2_with fail
  refine (Plain_walk s w).mono ?_
  rintro e w1 ⟨rfl, u1⟩
  have H1 := Hid.of u1
  clear u1
  have HP := Hid.of (show plainR s = plainR s from rfl)
  generalize hp : plainR s = p at HP ⊢
  clear HP
  have HP := Hid.of hp
  clear hp
  dsimp only
  go_wp2_with fail
  refine (num7 p w1).mono ?_
  rintro e w2 ⟨rfl, hw2⟩
  obtain rfl := hw2.symm
  dsimp only
  by_cases h : p = 0
  · subst h
    go_wp2
    go_ret
    exact ⟨by rw [← ptx_yes HT.out ⟨by omega, HX.out, HP.out⟩]; rfl, H1.out⟩
  · have h' : (p == 0) = false := by simpa using h
    go_wp2
    go_ret
    exact ⟨by rw [← ptx_no HT.out (fun hk => h (by rw [← HP.out]; exact hk.2.2))]; rfl, H1.out⟩
end
section
open Go.RowKit TextNum
theorem own_nil7 (w : World) (B : Nat) : Own w B (.slice none 0 0) [] := World.ownsRow_nil w B 5 1
theorem ownG_nil7 (w : World) (B : Nat) (e : TypeId) : OwnG w B e (.slice none 0 0) [] := ⟨World.ownsRow_nil w B e 3, by simp⟩
set_option maxRecDepth 100000 in
set_option maxHeartbeats 2000000 in
theorem theirs_walk (v : Value) (ss : List Sg) (w : World) (hS : SigL w v ss) (h16 : ss.length ≤ 1048576) (hb : ∀ s, s ∈ ss → s.bytes.length ≤ 1048576) :
    Calls Tryd.prog 27 #[v] w fun e w' => ∃ v', e = .returned v' ∧ SigL w' v' ss ∧ Up w w' := by
  obtain ⟨a, c, rfl, hc, hg⟩ := hS.get
  have HG := Hid.of hg
  have HBd := Hid.of hb
  clear hS hg hb
  obtain ⟨n, hn⟩ : ∃ n, ss.length = n := ⟨_, rfl⟩
  rw [hn] at hc h16 ⊢
  go_enter Tryd.func27, Tryd.ntmps27
  go_wp2
  go_loopw [3, 4] (fun v3 v4 wr => ∃ i : Nat, v4 = .int .i64 (i : Int) ∧ i ≤ n ∧ Hid (∃ qs, OwnG wr w.heap.size 101 v3 qs ∧ qs.map (·.1) = ss.take i ∧ Up w wr)) (fun _ v4 _ => n - (intOf v4).toNat)
  case atStart => exact ⟨0, rfl, by omega, [], ownG_nil7 _ _ _, by simp, Up.refl _⟩
  case round =>
    obtain ⟨i, rfl, hi, hI⟩ := hrel
    obtain ⟨qs, hI1, hI2, hI3⟩ := hI.out
    have HI := Hid.of (And.intro hI1 (And.intro hI2 hI3))
    clear hI hI1 hI2 hI3
    by_cases hlt : i < n
    rotate_left
    · have hlt' : ¬ (i : Int) < (n : Int) := by omega
      have hin : i = ss.length := by omega
      go_wp2
      go_ret
      refine ⟨_, rfl, ?_, HI.out.2.2⟩
      have := HI.out.1.sigL
      rw [HI.out.2.1, hin, List.take_length] at this
      exact this
    have hlt' : (i : Int) < (n : Int) := by omega
    have hltS : i < ss.length := by omega
    obtain ⟨b1, o1, rfl, p1, m1, d1, k1, k2, k3, rfl, k5⟩ := HG.out i hltS
    have k1' := HI.out.2.2.cell k1
    have k2' := HI.out.2.2.cell k2
    have k3' := HI.out.2.2.cell k3
    have HSl := Hid.of (k5.up HI.out.2.2)
    have HX := Hid.of (List.take_succ_eq_append_getElem hltS)
    have HBl := Hid.of (HBd.out _ (List.getElem_mem hltS))
    have HK0 := Hid.of (And.intro k1 k2)
    clear k1 k2 k3 k5
    generalize ss[i] = s at *
    obtain ⟨m, HM⟩ : ∃ m, Hid (s.bytes.length = m) := ⟨_, Hid.of rfl⟩
    rw [HM.out] at k3' HSl
    go_wp2_with (with_reducible show wpList _ _ _ ({ dst := _, op := Op.call { callee := Callee.builtin Builtin.append, args := _, argTypes := _ }, type := _, pos := _, after := _, guard := _ } :: _) _ _; refine Shut.out ?_)
    show wpList _ _ _ _ _ _
    refine wpList_appSl rfl _ _ rfl wr.heap.size _ _ [] s.bytes rfl (own_nil7 _ _) rfl HSl.out (by have := HBl.out; simp; omega) (Nat.le_refl _) ?_
    intro vb w5 hO5 b5
    rw [List.nil_append] at hO5
    simp only [Act.put, List.setIfInBounds_toArray, List.set_cons_zero, List.set_cons_succ]
    have u5 : Up wr w5 := b5
    obtain ⟨ab, cb5, rfl⟩ := hO5.len
    have HO5 := Hid.of hO5
    have H5 := Hid.of (show OwnG w5 w.heap.size 101 _ qs ∧ Up w w5 ∧ wr.heap.size ≤ w5.heap.size from ⟨HI.out.1.up u5, HI.out.2.2.trans u5, u5.size⟩)
    have c1 := u5.cell k1'
    have c2 := u5.cell k2'
    clear k1' k2' k3' hO5 b5 u5 HSl
    rw [HM.out]
    go_wp2_with fail
    refine wp_region_held_drew (S := fun w2 => w2.cell? ⟨b1, o1 + i * 3, none⟩ = some (.string s.name) ∧ w2.cell? ⟨b1, o1 + i * 3 + 1, none⟩ = some (.int .u32 (s.hash : Int)) ∧ Up w w2) (by kernel_rfl) ⟨c1, c2, H5.out.2.1.drew⟩ (fun hS => ?_)
    clear c1 c2
    refine wpAnyH_take (i := 0) (oi := { dst := some 19, op := Go.Op.move (Go.Operand.tmp 3), type := 48, pos := "law.go:19", after := #[], guard := none }) (v := u3) rfl (by kernel_rfl) (by kernel_rfl) (by kernel_rfl) (fun _ _ _ h => h) (Or.inl ⟨by kernel_rfl, ?_⟩) hS ?_
    · intro w5 hSw
      clear hSw hS
      go_simp
    simp only [Act.put, List.setIfInBounds_toArray, List.set_cons_zero, List.set_cons_succ]
    refine wpAnyH_take (i := 1) (oi := { dst := some 20, op := Go.Op.move (Go.Operand.tmp 0), type := 39, pos := "law.go:19", after := #[], guard := none }) (v := .slice (some ⟨b1, o1, none⟩) n c) rfl (by kernel_rfl) (by kernel_rfl) (by kernel_rfl) (fun _ _ _ h => h) (Or.inl ⟨by kernel_rfl, ?_⟩) hS ?_
    · intro w5 hSw
      clear hSw hS
      go_simp
    simp only [Act.put, List.setIfInBounds_toArray, List.set_cons_zero, List.set_cons_succ]
    refine wpAnyH_take (i := 2) (oi := { dst := some 21, op := Go.Op.move (Go.Operand.tmp 4), type := 3, pos := "law.go:19", after := #[], guard := none }) (v := .int .i64 (i : Int)) rfl (by kernel_rfl) (by kernel_rfl) (by kernel_rfl) (fun _ _ _ h => h) (Or.inl ⟨by kernel_rfl, ?_⟩) hS ?_
    · intro w5 hSw
      clear hSw hS
      go_simp
    simp only [Act.put, List.setIfInBounds_toArray, List.set_cons_zero, List.set_cons_succ]
    refine wpAnyH_take (i := 3) (oi := { dst := some 22, op := Go.Op.indexAddr 39 (Go.Operand.tmp 20) (Go.Operand.tmp 21), type := 0, pos := "law.go:19", after := #[{ on := 1, ground := Go.Ground.data }, { on := 2, ground := Go.Ground.data }], guard := none }) (v := .pointer (some ⟨b1, o1 + i * 3, none⟩)) rfl (by kernel_rfl) (by kernel_rfl) (by kernel_rfl) (fun _ _ _ h => h) (Or.inl ⟨by kernel_rfl, ?_⟩) hS ?_
    · intro w5 hSw
      clear hSw hS
      go_simp
    simp only [Act.put, List.setIfInBounds_toArray, List.set_cons_zero, List.set_cons_succ]
    refine wpAnyH_take (i := 4) (oi := { dst := some 23, op := Go.Op.fieldAddr 42 (Go.Operand.tmp 22) 0, type := 0, pos := "law.go:19", after := #[{ on := 3, ground := Go.Ground.data }], guard := none }) (v := .pointer (some ⟨b1, o1 + i * 3, none⟩)) rfl (by kernel_rfl) (by kernel_rfl) (by kernel_rfl) (fun _ _ _ h => h) (Or.inl ⟨by kernel_rfl, ?_⟩) hS ?_
    · intro w5 hSw
      clear hSw hS
      go_simp
    simp only [Act.put, List.setIfInBounds_toArray, List.set_cons_zero, List.set_cons_succ]
    refine wpAnyH_take (i := 5) (oi := { dst := some 24, op := Go.Op.load 9 (Go.Operand.tmp 23), type := 9, pos := "law.go:19", after := #[{ on := 4, ground := Go.Ground.data }], guard := none }) (v := .string s.name) rfl (by kernel_rfl) (by kernel_rfl) (by kernel_rfl) (fun _ _ _ h => h) (Or.inl ⟨by kernel_rfl, ?_⟩) hS ?_
    · intro w5 hSw
      have h1 := hSw.1
      have h2 := hSw.2.1
      clear hSw
      go_simp
    simp only [Act.put, List.setIfInBounds_toArray, List.set_cons_zero, List.set_cons_succ]
    refine wpAnyH_take (i := 6) (oi := { dst := some 25, op := Go.Op.move (Go.Operand.tmp 0), type := 39, pos := "law.go:19", after := #[], guard := none }) (v := .slice (some ⟨b1, o1, none⟩) n c) rfl (by kernel_rfl) (by kernel_rfl) (by kernel_rfl) (fun _ _ _ h => h) (Or.inl ⟨by kernel_rfl, ?_⟩) hS ?_
    · intro w5 hSw
      clear hSw hS
      go_simp
    simp only [Act.put, List.setIfInBounds_toArray, List.set_cons_zero, List.set_cons_succ]
    refine wpAnyH_take (i := 7) (oi := { dst := some 26, op := Go.Op.move (Go.Operand.tmp 4), type := 3, pos := "law.go:19", after := #[], guard := none }) (v := .int .i64 (i : Int)) rfl (by kernel_rfl) (by kernel_rfl) (by kernel_rfl) (fun _ _ _ h => h) (Or.inl ⟨by kernel_rfl, ?_⟩) hS ?_
    · intro w5 hSw
      clear hSw hS
      go_simp
    simp only [Act.put, List.setIfInBounds_toArray, List.set_cons_zero, List.set_cons_succ]
    refine wpAnyH_take (i := 8) (oi := { dst := some 27, op := Go.Op.indexAddr 39 (Go.Operand.tmp 25) (Go.Operand.tmp 26), type := 0, pos := "law.go:19", after := #[{ on := 6, ground := Go.Ground.data }, { on := 7, ground := Go.Ground.data }], guard := none }) (v := .pointer (some ⟨b1, o1 + i * 3, none⟩)) rfl (by kernel_rfl) (by kernel_rfl) (by kernel_rfl) (fun _ _ _ h => h) (Or.inl ⟨by kernel_rfl, ?_⟩) hS ?_
    · intro w5 hSw
      clear hSw hS
      go_simp
    simp only [Act.put, List.setIfInBounds_toArray, List.set_cons_zero, List.set_cons_succ]
    refine wpAnyH_take (i := 9) (oi := { dst := some 28, op := Go.Op.fieldAddr 42 (Go.Operand.tmp 27) 1, type := 0, pos := "law.go:19", after := #[{ on := 8, ground := Go.Ground.data }], guard := none }) (v := .pointer (some ⟨b1, o1 + i * 3 + 1, none⟩)) rfl (by kernel_rfl) (by kernel_rfl) (by kernel_rfl) (fun _ _ _ h => h) (Or.inl ⟨by kernel_rfl, ?_⟩) hS ?_
    · intro w5 hSw
      clear hSw hS
      go_simp
    simp only [Act.put, List.setIfInBounds_toArray, List.set_cons_zero, List.set_cons_succ]
    refine wpAnyH_take (i := 10) (oi := { dst := some 29, op := Go.Op.load 40 (Go.Operand.tmp 28), type := 40, pos := "law.go:19", after := #[{ on := 9, ground := Go.Ground.data }], guard := none }) (v := .int .u32 (s.hash : Int)) rfl (by kernel_rfl) (by kernel_rfl) (by kernel_rfl) (fun _ _ _ h => h) (Or.inl ⟨by kernel_rfl, ?_⟩) hS ?_
    · intro w5 hSw
      have h1 := hSw.1
      have h2 := hSw.2.1
      clear hSw
      go_simp
    simp only [Act.put, List.setIfInBounds_toArray, List.set_cons_zero, List.set_cons_succ]
    refine wpAnyH_take (i := 11) (oi := { dst := some 30, op := Go.Op.move (Go.Operand.tmp 5), type := 22, pos := "law.go:19", after := #[], guard := none }) (v := .slice ab m cb5) rfl (by kernel_rfl) (by kernel_rfl) (by kernel_rfl) (fun _ _ _ h => h) (Or.inl ⟨by kernel_rfl, ?_⟩) hS ?_
    · intro w5 hSw
      clear hSw hS
      go_simp
    simp only [Act.put, List.setIfInBounds_toArray, List.set_cons_zero, List.set_cons_succ]
    refine wpAnyH_take (i := 12) (oi := { dst := some 31, op := Go.Op.build 101 #[(0, Go.Operand.tmp 24), (1, Go.Operand.tmp 29), (2, Go.Operand.tmp 30)], type := 101, pos := "law.go:19", after := #[{ on := 5, ground := Go.Ground.data }, { on := 10, ground := Go.Ground.data }, { on := 11, ground := Go.Ground.data }], guard := none }) (v := .agg #[.string s.name, .int .u32 (s.hash : Int), .slice ab m cb5]) rfl (by kernel_rfl) (by kernel_rfl) (by kernel_rfl) (fun _ _ _ h => h) (Or.inl ⟨by kernel_rfl, ?_⟩) hS ?_
    · intro w5 hSw
      clear hSw hS
      go_simp
    simp only [Act.put, List.setIfInBounds_toArray, List.set_cons_zero, List.set_cons_succ]
    refine wpAnyH_ready (rs := [13]) (by kernel_rfl) (by simp) ?_
    refine AllReadyH.cons (o := { dst := some 32, op := Go.Op.buildSlice 48 1 #[(0, Go.Operand.tmp 31)], type := 48, pos := "law.go:19", after := #[{ on := 12, ground := Go.Ground.data }], guard := none }) rfl (fun K hK => ?_) AllReadyH.nil
    rw [if_pos (by kernel_rfl)]
    go_simp
    have u6 : Up w (w5.alloc (.cells #[.string s.name, .int .u32 (s.hash : Int), .slice ab m cb5] 101)).drew := (H5.out.2.1.alloc _).drew
    have hS2 := And.intro (u6.cell HK0.out.1) (And.intro (u6.cell HK0.out.2) u6)
    clear hS u6
    refine hK.out _ _ hS2 (fun hS => ?_)
    clear hK hS2 K
    refine wpAnyH_ready (rs := [14]) (by kernel_rfl) (by simp) ?_
    refine AllReadyH.cons (o := { dst := some 33, op := Go.Op.call { callee := Go.Callee.builtin Go.Builtin.append, args := #[Go.Operand.tmp 19, Go.Operand.tmp 32], argTypes := #[48, 48] }, type := 48, pos := "law.go:19", after := #[{ on := 0, ground := Go.Ground.data }, { on := 13, ground := Go.Ground.data }], guard := none }) rfl (fun K hK => ?_) AllReadyH.nil
    rw [if_pos (by kernel_rfl)]
    have hm := HM.out
    subst hm
    have u7 : Up w5 (w5.alloc (.cells #[.string s.name, .int .u32 (s.hash : Int), .slice ab s.bytes.length cb5] 101)).drew := ((Up.refl w5).alloc _).drew
    refine wp_appG sgT2 (Operand.tmp 19) (Operand.tmp 32) rfl w.heap.size u3 qs (s, ab, cb5) rfl (by exact H5.out.1.up u7) ⟨w5.heap.size, 0, none⟩ 1 rfl ?_ (by exact HO5.out.sl.up u7) ?_ (by have := congrArg List.length HI.out.2.1; rw [List.length_map, List.length_take] at this; omega) hS.2.2.size ?_
    · intro j u hj
      exact (World.cell?_drew _ _).trans (cells_new w5 101 (qc (s, ab, cb5)) j u hj)
    · intro b hb
      have h1 := World.ownsRow.lt HO5.out b hb
      refine ⟨Nat.lt_of_lt_of_le h1.2 u7.size, fun h2 => ?_⟩
      have := (World.ownsRow.lt HI.out.1.1 b h2).2
      omega
    intro v7 w7 hO7 b7
    simp only [Act.put, List.setIfInBounds_toArray, List.set_cons_zero, List.set_cons_succ]
    have u8 : Up w w7 := hS.2.2.step (Nat.le_refl _) b7
    have HN := Hid.of (show ∃ qs, OwnG w7 w.heap.size 101 v7 qs ∧ qs.map (·.1) = ss.take (i + 1) ∧ Up w w7 from ⟨qs ++ [(s, ab, cb5)], hO7, by rw [HX.out, List.map_append, HI.out.2.1]; rfl, u8⟩)
    have hS2 := And.intro (u8.cell HK0.out.1) (And.intro (u8.cell HK0.out.2) u8)
    clear hS hO7 b7 u7 u8
    refine hK.out _ _ hS2 (fun hS => ?_)
    clear hK hS2 K
    generalize s.bytes.length = m at *
    refine wpAnyH_ready (rs := [15]) (by kernel_rfl) (by simp) ?_
    refine AllReadyH.cons (o := { dst := some 3, op := Go.Op.assign (Go.Operand.tmp 33), type := 48, pos := "law.go:19", after := #[{ on := 14, ground := Go.Ground.data }, { on := 14, ground := Go.Ground.chain }, { on := 0, ground := Go.Ground.phase }, { on := 1, ground := Go.Ground.phase }, { on := 2, ground := Go.Ground.phase }, { on := 3, ground := Go.Ground.phase }, { on := 4, ground := Go.Ground.phase }, { on := 5, ground := Go.Ground.phase }, { on := 6, ground := Go.Ground.phase }, { on := 7, ground := Go.Ground.phase }, { on := 8, ground := Go.Ground.phase }, { on := 9, ground := Go.Ground.phase }, { on := 10, ground := Go.Ground.phase }, { on := 11, ground := Go.Ground.phase }, { on := 12, ground := Go.Ground.phase }, { on := 13, ground := Go.Ground.phase }, { on := 14, ground := Go.Ground.phase }], guard := none }) rfl (fun K hK => ?_) AllReadyH.nil
    rw [if_pos (by kernel_rfl)]
    go_simp
    refine hK.out _ _ hS (fun hS2 => ?_)
    clear hS hS2 hK K
    refine wpAnyH_done (by kernel_rfl) ?_ _
    go_wp2
    go_roundw
    case rel => exact ⟨i + 1, by go_num, by omega, HN⟩
    case measure => simp [intOf]; omega
end
section
open Go.RowKit TextNum
/-- bytes made to a text, in a region that draws and only reads -/
theorem quiet_conv {C : World → Prop} {a : Act} {o : Oper} {K : Act → Prop} (x : Operand) (h : o.op = .convert 22 9 x) (v : Value) (b : ByteArray) (hx : a.eval x = v) (hs : ∀ w, C w → (convert 22 9 v).run Tryd.prog w = .ok (.string b) w) (hk : K (a.put o.dst (.string b))) : o.quiet Tryd.prog a C K :=
  ⟨_, fun w hw => by
    have e : (execOp a.eval o).run Tryd.prog w = .ok (.value (.string b)) w := by
      unfold execOp
      simp only [h, Sem.run_bind, Sem.run_pure, Result.andThen_ok, hx, hs w hw]
    unfold Oper.quietAt
    rw [e]
    exact ⟨rfl, rfl⟩, hk⟩
set_option maxRecDepth 100000 in
set_option maxHeartbeats 2000000 in
/-- signatures that are the same are found alike -/
theorem alike_walk (v1 v2 : Value) (ss : List Sg) (w : World) (h1 : SigL w v1 ss) (h2 : SigL w v2 ss) (h16 : ss.length ≤ 1048576) :
    Calls Tryd.prog 26 #[v1, v2] w fun e w' => e = .returned (.bool true) ∧ Up w w' := by
  obtain ⟨a1, c1, rfl, hc1, hg1⟩ := h1.get
  obtain ⟨a2, c2, rfl, hc2, hg2⟩ := h2.get
  have HG := Hid.of (And.intro hg1 hg2)
  clear h1 h2 hg1 hg2
  obtain ⟨n, hn⟩ : ∃ n, ss.length = n := ⟨_, rfl⟩
  rw [hn] at hc1 hc2 h16 ⊢
  go_enter Tryd.func26, Tryd.ntmps26
  go_wp2
  go_loopw [5] (fun v5 wr => ∃ i : Nat, v5 = .int .i64 (i : Int) ∧ i ≤ n ∧ Hid (Up w wr)) (fun v5 _ => n - (intOf v5).toNat)
  case atStart => exact ⟨0, rfl, by omega, Up.refl _⟩
  case round =>
    obtain ⟨i, rfl, hi, hI⟩ := hrel
    by_cases hlt : i < n
    · have hlt' : (i : Int) < (n : Int) := by omega
      have hltS : i < ss.length := by omega
      obtain ⟨b1, o1, rfl, p1, m1, d1, k1, k2, k3, rfl, k5⟩ := HG.out.1 i hltS
      obtain ⟨b2, o2, rfl, p2, m2, d2, j1, j2, j3, rfl, j5⟩ := HG.out.2 i hltS
      have k1' := hI.out.cell k1
      have k2' := hI.out.cell k2
      have k3' := hI.out.cell k3
      have j1' := hI.out.cell j1
      have j2' := hI.out.cell j2
      have j3' := hI.out.cell j3
      have hv1 : ∀ k, (convert 22 9 (.slice p1 ss[i].bytes.length d1)).run Tryd.prog (wr.drewN k) = .ok (vs ss[i].bytes) (wr.drewN k) := fun k => conv_sl (k5.up (hI.out.drewN k))
      have hv2 : ∀ k, (convert 22 9 (.slice p2 ss[i].bytes.length d2)).run Tryd.prog (wr.drewN k) = .ok (vs ss[i].bytes) (wr.drewN k) := fun k => conv_sl (j5.up (hI.out.drewN k))
      clear k1 k2 k3 k5 j1 j2 j3 j5
      generalize ss[i] = s at *
      rw [show vs s.bytes = .string ⟨s.bytes.toArray⟩ from rfl] at hv1 hv2
      generalize (⟨s.bytes.toArray⟩ : ByteArray) = bs at *
      have HV := Hid.of (And.intro hv1 hv2)
      clear hv1 hv2
      generalize s.bytes.length = m at *
      generalize s.name = nm at *
      generalize (s.hash : Int) = hs at *
      go_wp2_with fail
      refine wp_region_quiet_lit (by kernel_rfl) (by kernel_rfl) ?_
      repeat (go_big_quiet_step (fail))
      refine BigFrame.wpQuiet_want (by kernel_rfl) (fun K hK => ?_)
      refine quiet_conv _ rfl _ bs rfl (fun w2 hw => ?_) ?_
      · obtain ⟨k, rfl⟩ := hw
        exact HV.out.1 _
      refine hK _ ?_
      clear hK K
      simp only [Act.put, List.setIfInBounds_toArray, List.set_cons_zero, List.set_cons_succ]
      repeat (go_big_quiet_step (fail))
      refine BigFrame.wpQuiet_want (by kernel_rfl) (fun K hK => ?_)
      refine quiet_conv _ rfl _ bs rfl (fun w2 hw => ?_) ?_
      · obtain ⟨k, rfl⟩ := hw
        exact HV.out.2 _
      refine hK _ ?_
      clear hK K
      simp only [Act.put, List.setIfInBounds_toArray, List.set_cons_zero, List.set_cons_succ]
      repeat (go_big_quiet_step (fail))
      refine wpQuiet_nil ?_
      intro w2 hw
      obtain ⟨k, rfl⟩ := hw
      go_wp2
      go_roundw
      case rel => exact ⟨i + 1, by go_num, by omega, hI.out.drewN _⟩
      case measure => simp [intOf]; omega
    · have hlt' : ¬ (i : Int) < (n : Int) := by omega
      go_wp2
      go_ret
      exact ⟨rfl, hI.out⟩
end
end Go.Proofs.YtbdbpmeaiiodgaaDoor
