import Derived.Test.YtaobnnlcfefodaaGreatDoorNm0
import Derived.Test.YtaobnnlcfefodaaGreatDoorLp
import Derived.Test.YtaobnnlcfefodaaGreatDoorBd
import Derived.Test.YtaobnnlcfefodaaGreatDoorCt7
namespace Go.Proofs.YtaobnnlcfefodaaGreatDoor
open Go.RowKit TextNum
/-- a signature -/
structure Sg where
  name : ByteArray
  hash : Nat
  bytes : List UInt8
def MK : List UInt8 := [226, 128, 148, 32]
/-- a key's hash in bytes, and back -/
def hb4 (h : Nat) : List UInt8 := [UInt8.ofNat (h / 16777216), UInt8.ofNat (h / 65536), UInt8.ofNat (h / 256), UInt8.ofNat h]
def h4 (b : List UInt8) : Nat := (b.getD 0 0).toNat * 16777216 + (b.getD 1 0).toNat * 65536 + (b.getD 2 0).toNat * 256 + (b.getD 3 0).toNat
theorem h4_hb4 {h : Nat} (hh : h < 4294967296) (x : List UInt8) : h4 (hb4 h ++ x) = h := by
  simp only [h4, hb4, List.cons_append, List.nil_append, List.getD_cons_zero, List.getD_cons_succ, UInt8.toNat_ofNat']
  omega
theorem hb4_h4 {b : List UInt8} (hb : 4 ≤ b.length) : hb4 (h4 b) ++ b.drop 4 = b := by
  match b, hb with
  | a :: c :: d :: e :: r, _ =>
    have ha := a.toNat_lt; have hc := c.toNat_lt; have hd := d.toNat_lt; have he := e.toNat_lt
    simp only [h4, hb4, List.getD_cons_zero, List.getD_cons_succ, List.drop_succ_cons, List.drop_zero, List.cons_append, List.nil_append, List.cons.injEq, and_true]
    refine ⟨?_, ?_, ?_, ?_⟩ <;> apply UInt8.toNat_inj.1 <;> rw [UInt8.toNat_ofNat'] <;> omega
theorem h4_lt (b : List UInt8) : h4 b < 4294967296 := by
  have := (b.getD 0 0).toNat_lt; have := (b.getD 1 0).toNat_lt; have := (b.getD 2 0).toNat_lt; have := (b.getD 3 0).toNat_lt
  unfold h4
  omega
/-- a signature's line, without its end -/
def sigB (s : Sg) : List UInt8 := MK ++ s.name.data.toList ++ [32] ++ b64E (hb4 s.hash ++ s.bytes)
def fmtN (t : List UInt8) (ss : List Sg) : List UInt8 := t ++ 10 :: joinL (ss.map sigB)
def okS (s : Sg) : Prop := nameR s.name = 0 ∧ s.bytes ≠ []
def okT (t : ByteArray) : Prop := t.data.toList.getLast? = some 10 ∧ plainR t = 0
def sgLen (s : Sg) : Nat := 4 + s.name.size + 1 + (4 + s.bytes.length + 2) / 3 * 4 + 1
def sumL : List Sg → Nat
  | [] => 0
  | s :: r => sgLen s + sumL r
def nlen (t : ByteArray) (ss : List Sg) : Nat := t.size + 1 + sumL ss
theorem joinL_len (ss : List Sg) : (joinL (ss.map sigB)).length = sumL ss := by
  induction ss with
  | nil => rfl
  | cons s r ih =>
    rw [List.map_cons, joinL_cons, List.length_append, List.length_cons, ih]
    simp only [sumL, sgLen, sigB, MK, List.length_append, List.length_cons, List.length_nil, b64E_length, hb4]
    rw [← Go.Lib.size_eq]
    omega
theorem fmtN_len (t : ByteArray) (ss : List Sg) : (fmtN t.data.toList ss).length = nlen t ss := by
  unfold fmtN nlen
  rw [List.length_append, List.length_cons, joinL_len, ← Go.Lib.size_eq]
  omega
def Lng (t : ByteArray) (ss : List Sg) : Prop := 16 < ss.length ∨ 65536 < nlen t ss
def Fine (t : ByteArray) (ss : List Sg) : Prop := okT t ∧ ss ≠ [] ∧ ∀ s, s ∈ ss → okS s
/-- Format's number -/
def FR (t : ByteArray) (ss : List Sg) (er : Int) : Prop := (er = 2 ∧ Lng t ss) ∨ (er = 74 ∧ ¬ Lng t ss ∧ ¬ Fine t ss) ∨ (er = 0 ∧ ¬ Lng t ss ∧ Fine t ss)
/-- a line read -/
def rdS (l : List UInt8) : Option Sg :=
  if Go.Lib.hasPrefix l MK = true then
    (if nameR ⟨(Go.Lib.cut (l.drop 4) [32]).1.toArray⟩ ≠ 0 ∨ (b64R (Go.Lib.cut (l.drop 4) [32]).2.1).2 ≠ 0 ∨ (b64R (Go.Lib.cut (l.drop 4) [32]).2.1).1.length ≤ 4 then none
     else some ⟨⟨(Go.Lib.cut (l.drop 4) [32]).1.toArray⟩, h4 (b64R (Go.Lib.cut (l.drop 4) [32]).2.1).1, (b64R (Go.Lib.cut (l.drop 4) [32]).2.1).1.drop 4⟩)
  else none
/-- all lines -/
def rdL (ls : List (List UInt8)) (ss : List Sg) : Prop := ls.map rdS = ss.map some
def Tl (l : List UInt8) (ss : List Sg) : Prop := lnE l = 0 ∧ linesOf l ≠ [] ∧ (linesOf l).length ≤ 16 ∧ rdL (linesOf l) ss
def Spl (m : List UInt8) (t : ByteArray) (ss : List Sg) : Prop := ∃ i, bk m i ∧ (∀ j, i < j → ¬ bk m j) ∧ t.data.toList = m.take (i + 1) ∧ okT t ∧ Tl (m.drop (i + 2)) ss
/-- Split's number -/
def SR (m : List UInt8) (t : ByteArray) (ss : List Sg) (er : Int) : Prop := (er = 2 ∧ 65536 < m.length) ∨ (er = 74 ∧ m.length ≤ 65536 ∧ ¬ ∃ t ss, Spl m t ss) ∨ (er = 0 ∧ m.length ≤ 65536 ∧ Spl m t ss)

theorem cut_at (l : List UInt8) (c : UInt8) : (∃ a r, Go.Lib.cut l [c] = (a, r, true) ∧ l = a ++ c :: r ∧ c ∉ a) ∨ (Go.Lib.cut l [c] = (l, [], false) ∧ c ∉ l) := by
  have hi : Go.Lib.index l [c] = Go.Lib.indexByte l c := Go.Lib.index_one l c
  unfold Go.Lib.cut
  rw [hi]
  have hge := Go.Lib.indexByte_ge l c
  by_cases h : 0 ≤ Go.Lib.indexByte l c
  · left
    rw [if_pos h]
    obtain ⟨o, ho⟩ := Int.eq_ofNat_of_zero_le h
    obtain ⟨h1, h2⟩ := Go.Lib.indexByte_some ho
    obtain ⟨hol, h1'⟩ := List.getElem?_eq_some_iff.1 h1
    refine ⟨l.take o, l.drop (o + 1), by rw [ho]; rfl, ?_, ?_⟩
    · conv => lhs; rw [← List.take_append_drop o l, List.drop_eq_getElem_cons hol, h1']
    · intro hm
      obtain ⟨k, hk, e⟩ := List.getElem_of_mem hm
      have hk' : k < o := by rw [List.length_take] at hk; omega
      refine h2 k hk' ?_
      rw [List.getElem?_eq_getElem (by omega), ← e, List.getElem_take]
  · right
    rw [if_neg h]
    have h3 := Go.Lib.indexByte_none (l := l) (c := c) (by omega)
    refine ⟨rfl, fun hm => ?_⟩
    obtain ⟨k, hk, e⟩ := List.getElem_of_mem hm
    exact h3 k (by rw [List.getElem?_eq_getElem hk, e])
theorem pre_eq {c : UInt8} : ∀ {a b r s : List UInt8}, a ++ c :: r = b ++ c :: s → c ∉ a → c ∉ b → a = b ∧ r = s
  | [], [], r, s, h, _, _ => by simpa using h
  | [], y :: b, r, s, h, _, hb => by simp at h; exact absurd (by simp [h.1]) hb
  | x :: a, [], r, s, h, ha, _ => by simp at h; exact absurd (by simp [h.1]) ha
  | x :: a, y :: b, r, s, h, ha, hb => by
    simp only [List.cons_append, List.cons.injEq] at h
    obtain ⟨e1, e2⟩ := pre_eq h.2 (fun e => ha (by simp [e])) (fun e => hb (by simp [e]))
    exact ⟨by rw [h.1, e1], e2⟩
theorem cut_hit {a r : List UInt8} {c : UInt8} (h : c ∉ a) : Go.Lib.cut (a ++ c :: r) [c] = (a, r, true) := by
  rcases cut_at (a ++ c :: r) c with ⟨a', r', e, e2, h2⟩ | ⟨_, h2⟩
  · obtain ⟨rfl, rfl⟩ := pre_eq e2 h h2
    exact e
  · exact absurd (by simp) h2
theorem name_byte {o : ByteArray} (h : nameR o = 0) {c : UInt8} (hc : c.toNat ≤ 32) : c ∉ o.data.toList := by
  intro hm
  obtain ⟨k, hk, e⟩ := List.getElem_of_mem hm
  have hk' : k < o.size := by rw [Go.Lib.size_eq]; exact hk
  have := (((name_iff o).1 h).2.2.2 k hk').1
  refine this (.inl ?_)
  rw [gb_list, List.getD_eq_getElem?_getD, List.getElem?_eq_getElem hk, e]
  exact hc
theorem lt_no10' (i : Nat) : lt i ≠ 10 := by
  unfold lt
  rcases Nat.lt_or_ge i 64 with h | h
  · have : ∀ k : Fin 64, TextNum.LT.getD k.1 0 ≠ 10 := by decide
    exact this ⟨i, h⟩
  · rw [List.getD_eq_getElem?_getD, List.getElem?_eq_none (by simpa [TextNum.LT] using h)]
    decide
theorem g_no10' : ∀ (x : List UInt8), (10 : UInt8) ∉ b64E x
  | [] => by simp [b64E]
  | [x] => by simp [b64E, g1, Ne.symm (lt_no10' _)]
  | [x, y] => by simp [b64E, g2, Ne.symm (lt_no10' _)]
  | x :: y :: z :: r => by
    have := g_no10' r
    simp [b64E, g3, Ne.symm (lt_no10' _), this]
theorem sigB_no10 {s : Sg} (h : okS s) : (10 : UInt8) ∉ sigB s := by
  have h1 := name_byte h.1 (c := 10) (by decide)
  have h2 := g_no10' (hb4 s.hash ++ s.bytes)
  intro hm
  simp only [sigB, MK, List.mem_append, List.mem_cons, List.not_mem_nil, or_false] at hm
  rcases hm with ((hm | hm) | hm) | hm
  · revert hm; decide
  · exact h1 hm
  · revert hm; decide
  · exact h2 hm
theorem b64R_back (b : List UInt8) (h : (b64E b).length ≤ 1048576) : b64R (b64E b) = (b, 0) := b64R_some (by omega) (b64_back b)
theorem mk_pre (r : List UInt8) : Go.Lib.hasPrefix (MK ++ r) MK = true := by simp [Go.Lib.hasPrefix, MK, List.isPrefixOf]
theorem ba_eta (o : ByteArray) : (⟨o.data.toList.toArray⟩ : ByteArray) = o := by cases o; simp
/-- what is written is read -/
theorem rdS_sigB {s : Sg} (h : okS s) (hh : s.hash < 4294967296) (hl : sgLen s ≤ 65536) : rdS (sigB s) = some s := by
  have e : sigB s = MK ++ (s.name.data.toList ++ 32 :: b64E (hb4 s.hash ++ s.bytes)) := by simp [sigB]
  have hlen : (b64E (hb4 s.hash ++ s.bytes)).length ≤ 1048576 := by
    rw [b64E_length, List.length_append]
    simp only [hb4, List.length_cons, List.length_nil]
    unfold sgLen at hl
    omega
  unfold rdS
  rw [e, if_pos (mk_pre _), show (MK ++ (s.name.data.toList ++ 32 :: b64E (hb4 s.hash ++ s.bytes))).drop 4 = s.name.data.toList ++ 32 :: b64E (hb4 s.hash ++ s.bytes) from rfl,
    cut_hit (name_byte h.1 (by decide))]
  simp only
  rw [b64R_back _ hlen, ba_eta, if_neg]
  · rw [h4_hb4 hh]
    rfl
  · have hb := List.length_pos_iff.2 h.2
    rintro (hx | hx | hx)
    · exact hx h.1
    · exact hx rfl
    · simp only [hb4, List.length_append, List.length_cons, List.length_nil] at hx
      omega
theorem rdS_some {l : List UInt8} {s : Sg} (h : rdS l = some s) : okS s ∧ sigB s = l ∧ s.hash < 4294967296 := by
  unfold rdS at h
  split at h
  · rename_i hp
    split at h
    · cases h
    · rename_i hc
      simp only [not_or, Nat.not_le] at hc
      obtain ⟨c1, c2, c3⟩ := hc
      have c1 := Classical.not_not.1 c1
      have c2 := Classical.not_not.1 c2
      injection h with h
      subst h
      have hl : l = MK ++ l.drop 4 := by
        have := (List.isPrefixOf_iff_prefix).1 hp
        obtain ⟨r, hr⟩ := this
        rw [← hr]; rfl
      generalize l.drop 4 = r at *
      subst hl
      rcases cut_at r 32 with ⟨a, q, e, rfl, _⟩ | ⟨e, _⟩
      · rw [e] at c1 c2 c3 ⊢
        simp only at c1 c2 c3 ⊢
        have hq : b64E (b64R q).1 = q := by
          unfold b64R at c2 c3 ⊢
          split at c2
          · cases c2
          · rename_i hq0
            rw [if_neg hq0] at c3 ⊢
            cases hd : b64D q with
            | none => rw [hd] at c2; cases c2
            | some x => rw [hd] at c2 c3; exact b64_once q x hd
        refine ⟨⟨c1, fun e => ?_⟩, ?_, h4_lt _⟩
        · have := congrArg List.length e
          simp only [List.length_drop, List.length_nil] at this
          omega
        · simp only [sigB]
          rw [hb4_h4 (by omega), hq]
          simp
      · rw [e] at c3
        exact absurd (show 4 < (b64R []).1.length from c3) (by decide)
  · cases h
theorem rdL_sigB {ss : List Sg} (h : ∀ s, s ∈ ss → okS s ∧ s.hash < 4294967296 ∧ sgLen s ≤ 65536) : rdL (ss.map sigB) ss := by
  unfold rdL
  rw [List.map_map]
  apply List.map_congr_left
  intro s hs
  exact rdS_sigB (h s hs).1 (h s hs).2.1 (h s hs).2.2
theorem rdL_lines : ∀ {ls : List (List UInt8)} {ss : List Sg}, rdL ls ss → ls = ss.map sigB ∧ ∀ s, s ∈ ss → okS s ∧ s.hash < 4294967296
  | [], [], _ => ⟨rfl, by simp⟩
  | [], s :: ss, h => by simp [rdL] at h
  | l :: ls, [], h => by simp [rdL] at h
  | l :: ls, s :: ss, h => by
    simp only [rdL, List.map_cons, List.cons.injEq] at h
    obtain ⟨e1, e2⟩ := rdL_lines (ls := ls) (ss := ss) h.2
    obtain ⟨a1, a2, a3⟩ := rdS_some h.1
    refine ⟨by rw [List.map_cons, ← e1, a2], fun x hx => ?_⟩
    rcases List.mem_cons.1 hx with rfl | hx
    · exact ⟨a1, a3⟩
    · exact e2 x hx
theorem sgLen_le {s : Sg} {ss : List Sg} (h : s ∈ ss) : sgLen s ≤ sumL ss := by
  induction ss with
  | nil => cases h
  | cons x r ih =>
    rcases List.mem_cons.1 h with rfl | h
    · simp [sumL]
    · have := ih h; simp only [sumL]; omega
theorem joinL_last : ∀ (xs : List (List UInt8)), xs ≠ [] → (joinL xs).getLast? = some 10
  | [], h => absurd rfl h
  | [x], _ => by simp [joinL]
  | x :: y :: r, _ => by
    rw [joinL_cons]
    have := joinL_last (y :: r) (by simp)
    rw [show x ++ 10 :: joinL (y :: r) = (x ++ [10]) ++ joinL (y :: r) by simp, List.getLast?_append, this]
    rfl
/-- lines that are not empty have no blank line among them -/
theorem join_nobk : ∀ (xs : List (List UInt8)), (∀ x, x ∈ xs → (10 : UInt8) ∉ x ∧ x ≠ []) → ∀ j, ¬ bk (10 :: joinL xs) j
  | [], _, j => by
    rintro ⟨h1, h2⟩
    cases j with
    | zero => simp [joinL] at h2
    | succ j => simp [joinL] at h2
  | x :: r, h, j => by
    rintro ⟨h1, h2⟩
    have hx := h x (by simp)
    rw [joinL_cons] at h1 h2
    have hxl := List.length_pos_iff.2 hx.2
    rcases Nat.lt_or_ge j (x.length + 1) with hj | hj
    · cases j with
      | zero =>
        rw [List.getElem?_cons_succ, List.getElem?_append_left (by omega)] at h2
        exact hx.1 (List.mem_of_getElem? h2)
      | succ j =>
        rw [List.getElem?_cons_succ, List.getElem?_append_left (by omega)] at h1
        exact hx.1 (List.mem_of_getElem? h1)
    · obtain ⟨k, rfl⟩ : ∃ k, j = x.length + 1 + k := ⟨j - (x.length + 1), by omega⟩
      refine join_nobk r (fun y hy => h y (by simp [hy])) k ⟨?_, ?_⟩
      · rw [show x.length + 1 + k = (x.length + k) + 1 by omega, List.getElem?_cons_succ, List.getElem?_append_right (by omega)] at h1
        rwa [show x.length + k - x.length = k by omega] at h1
      · rw [show x.length + 1 + k + 1 = (x.length + (k + 1)) + 1 by omega, List.getElem?_cons_succ, List.getElem?_append_right (by omega)] at h2
        rwa [show x.length + (k + 1) - x.length = k + 1 by omega] at h2
theorem sigB_ne (s : Sg) : sigB s ≠ [] := by simp [sigB, MK]
/-- what Format gives Split takes apart -/
theorem split_fmt {t : ByteArray} {ss : List Sg} (hL : ¬ Lng t ss) (hF : Fine t ss) (hh : ∀ s, s ∈ ss → s.hash < 4294967296) : Spl (fmtN t.data.toList ss) t ss ∧ (fmtN t.data.toList ss).length ≤ 65536 := by
  have hlen := fmtN_len t ss
  unfold Lng at hL
  simp only [not_or, Nat.not_lt] at hL
  refine ⟨?_, by omega⟩
  obtain ⟨⟨ht, hp⟩, hne, hok⟩ := hF
  have hno : ∀ x, x ∈ ss.map sigB → (10 : UInt8) ∉ x ∧ x ≠ [] := fun x hx => by
    obtain ⟨s, hs, rfl⟩ := List.mem_map.1 hx
    exact ⟨sigB_no10 (hok s hs), sigB_ne s⟩
  have htl : t.data.toList ≠ [] := by rintro e; rw [e] at ht; cases ht
  have htp := List.length_pos_iff.2 htl
  have hsum : sumL ss ≤ 65536 := by unfold nlen at hL; omega
  unfold fmtN
  generalize hT : t.data.toList = T at *
  have hlast : T[T.length - 1]? = some 10 := by rw [← List.getLast?_eq_getElem?]; exact ht
  refine ⟨T.length - 1, ⟨?_, ?_⟩, ?_, ?_, ⟨by rw [hT]; exact ht, hp⟩, ?_⟩
  · rw [List.getElem?_append_left (by omega)]; exact hlast
  · rw [show T.length - 1 + 1 = T.length by omega, List.getElem?_append_right (Nat.le_refl _)]; simp
  · intro j hj hb
    refine join_nobk (ss.map sigB) hno (j - T.length) ?_
    obtain ⟨h1, h2⟩ := hb
    rw [List.getElem?_append_right (by omega)] at h1 h2
    exact ⟨h1, by rw [show j - T.length + 1 = j + 1 - T.length by omega]; exact h2⟩
  · rw [show T.length - 1 + 1 = T.length by omega, List.take_left' rfl, hT]
  · have hd : (T ++ 10 :: joinL (ss.map sigB)).drop (T.length - 1 + 2) = joinL (ss.map sigB) := by
      rw [show T.length - 1 + 2 = T.length + 1 by omega, ← List.drop_drop, List.drop_left' rfl]; rfl
    rw [hd]
    have hlj : linesOf (joinL (ss.map sigB)) = ss.map sigB := lines_join _ (fun x hx => (hno x hx).1)
    have hml : ss.map sigB ≠ [] := by simpa using hne
    refine ⟨?_, by rw [hlj]; exact hml, by rw [hlj, List.length_map]; exact hL.1, by rw [hlj]; exact rdL_sigB (fun s hs => ⟨hok s hs, hh s hs, by have := sgLen_le hs; omega⟩)⟩
    unfold lnE
    rw [if_neg (by rw [joinL_len]; omega), if_pos (.inr (joinL_last _ hml))]
theorem spl_fmt {m : List UInt8} {t : ByteArray} {ss : List Sg} (h : Spl m t ss) (hm : m.length ≤ 65536) : ¬ Lng t ss ∧ Fine t ss ∧ fmtN t.data.toList ss = m ∧ ∀ s, s ∈ ss → s.hash < 4294967296 := by
  obtain ⟨i, hb, _, ht, hok, h0, hne, h16, hr⟩ := h
  obtain ⟨e1, e2⟩ := rdL_lines hr
  have hj : joinL (linesOf (m.drop (i + 2))) = m.drop (i + 2) := by
    refine join_lines _ ?_
    unfold lnE at h0
    split at h0
    · cases h0
    · split at h0
      · assumption
      · cases h0
  have hm2 : fmtN t.data.toList ss = m := by
    unfold fmtN
    rw [← e1, hj, ht]
    obtain ⟨hl, e⟩ := List.getElem?_eq_some_iff.1 hb.2
    conv => rhs; rw [← List.take_append_drop (i + 1) m, List.drop_eq_getElem_cons hl, e]
  refine ⟨?_, ⟨hok, ?_, fun s hs => (e2 s hs).1⟩, hm2, fun s hs => (e2 s hs).2⟩
  · have := fmtN_len t ss
    rw [hm2] at this
    have h2 : ss.length = (linesOf (m.drop (i + 2))).length := by rw [e1, List.length_map]
    unfold Lng
    omega
  · rintro rfl
    rw [e1] at hne
    exact hne rfl
theorem ba_list7 {s t : ByteArray} (h : s.data.toList = t.data.toList) : s = t := by
  obtain ⟨⟨x⟩⟩ := s
  obtain ⟨⟨y⟩⟩ := t
  simp at h
  rw [h]
theorem spl_one {m : List UInt8} {t t' : ByteArray} {ss ss' : List Sg} (h : Spl m t ss) (h' : Spl m t' ss') : t = t' ∧ ss = ss' := by
  obtain ⟨i, hb, hn, ht, _, _, _, _, hr⟩ := h
  obtain ⟨i', hb', hn', ht', _, _, _, _, hr'⟩ := h'
  obtain rfl : i = i' := by
    rcases Nat.lt_trichotomy i i' with h | h | h
    · exact absurd hb' (hn _ h)
    · exact h
    · exact absurd hb (hn' _ h)
  refine ⟨ba_list7 (ht.trans ht'.symm), ?_⟩
  have := hr.symm.trans hr'
  exact (List.map_inj_right (fun x y => Option.some.inj)).1 this
end Go.Proofs.YtaobnnlcfefodaaGreatDoor
