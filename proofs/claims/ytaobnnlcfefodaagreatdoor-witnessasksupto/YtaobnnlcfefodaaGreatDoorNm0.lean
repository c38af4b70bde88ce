import Derived.Test.YtaobnnlcfefodaaGreatDoorRp
import Derived.Lib.IndexLaws
import Derived.Lib.Bytealg
namespace Go.Proofs.YtaobnnlcfefodaaGreatDoor
open Go.RowKit TextNum
/-- a blank of more than one byte, by its bytes -/
def blkN (b0 b1 b2 : Nat) : Prop :=
  (b0 = 194 ∧ (b1 = 133 ∨ b1 = 160)) ∨ (b0 = 225 ∧ b1 = 154 ∧ b2 = 128) ∨ (b0 = 226 ∧ b1 = 128 ∧ ((128 ≤ b2 ∧ b2 ≤ 138) ∨ b2 = 168 ∨ b2 = 169 ∨ b2 = 175)) ∨ (b0 = 226 ∧ b1 = 129 ∧ b2 = 159) ∨ (b0 = 227 ∧ b1 = 128 ∧ b2 = 128)
/-- a blank of more than one byte stands at i -/
def blk (s : ByteArray) (i : Nat) : Prop := blkN (gb s i) (gb s (i + 1)) (gb s (i + 2))
theorem blkN_lead {b0 b1 b2 : Nat} (h : blkN b0 b1 b2) : b0 = 194 ∨ b0 = 225 ∨ b0 = 226 ∨ b0 = 227 := by
  rcases h with h | h | h | h | h
  · exact .inl h.1
  · exact .inr (.inl h.1)
  · exact .inr (.inr (.inl h.1))
  · exact .inr (.inr (.inl h.1))
  · exact .inr (.inr (.inr h.1))
theorem sp1 {b0 b1 b2 : Nat} (h : b0 < 128) (hc : ¬ (b0 < 32 ∧ b0 ≠ 10)) (hd : b0 ≠ 127) : Go.Lib.IsSpaceP b0 ↔ (b0 ≤ 32 ∨ b0 = 127 ∨ blkN b0 b1 b2) := by
  constructor
  · intro hs
    left
    rcases hs with h1 | h1 | h1 | h1 | h1 | h1 | h1 | h1 | h1 | h1 | h1 <;> omega
  · rintro (h1 | h1 | h1)
    · rcases (by omega : b0 = 10 ∨ b0 = 32) with rfl | rfl <;> decide
    · omega
    · have := blkN_lead h1; omega
theorem sp2 {b0 b1 b2 : Nat} (h0 : b0 / 32 = 6) (h1 : b1 / 64 = 2) (h2 : 128 ≤ b0 % 32 * 64 + b1 % 64) : Go.Lib.IsSpaceP (b0 % 32 * 64 + b1 % 64) ↔ (b0 ≤ 32 ∨ b0 = 127 ∨ blkN b0 b1 b2) := by
  constructor
  · intro hs
    right; right; left
    rcases hs with h3 | h3 | h3 | h3 | h3 | h3 | h3 | h3 | h3 | h3 | h3
    · omega
    · omega
    · exact ⟨by omega, .inl (by omega)⟩
    · exact ⟨by omega, .inr (by omega)⟩
    all_goals omega
  · rintro (h3 | h3 | h3)
    · omega
    · omega
    · rcases h3 with h3 | h3 | h3 | h3 | h3
      · obtain ⟨rfl, rfl | rfl⟩ := h3 <;> decide
      all_goals omega
theorem sp3 {b0 b1 b2 : Nat} (h0 : b0 / 16 = 14) (h1 : b1 / 64 = 2) (h2 : b2 / 64 = 2) (h3 : 2048 ≤ b0 % 16 * 4096 + b1 % 64 * 64 + b2 % 64) : Go.Lib.IsSpaceP (b0 % 16 * 4096 + b1 % 64 * 64 + b2 % 64) ↔ (b0 ≤ 32 ∨ b0 = 127 ∨ blkN b0 b1 b2) := by
  constructor
  · intro hs
    right; right
    rcases hs with h4 | h4 | h4 | h4 | h4 | h4 | h4 | h4 | h4 | h4 | h4
    · omega
    · omega
    · omega
    · omega
    · exact .inr (.inl ⟨by omega, by omega, by omega⟩)
    · exact .inr (.inr (.inl ⟨by omega, by omega, .inl ⟨by omega, by omega⟩⟩))
    · exact .inr (.inr (.inl ⟨by omega, by omega, .inr (.inl (by omega))⟩))
    · exact .inr (.inr (.inl ⟨by omega, by omega, .inr (.inr (.inl (by omega)))⟩))
    · exact .inr (.inr (.inl ⟨by omega, by omega, .inr (.inr (.inr (by omega)))⟩))
    · exact .inr (.inr (.inr (.inl ⟨by omega, by omega, by omega⟩)))
    · exact .inr (.inr (.inr (.inr ⟨by omega, by omega, by omega⟩)))
  · rintro (h4 | h4 | h4)
    · omega
    · omega
    · rcases h4 with h4 | h4 | h4 | h4 | h4
      · omega
      · obtain ⟨rfl, rfl, rfl⟩ := h4; decide
      · obtain ⟨rfl, rfl, h5⟩ := h4
        rcases h5 with h5 | rfl | rfl | rfl
        · exact .inr (.inr (.inr (.inr (.inr (.inl ⟨by omega, by omega⟩)))))
        all_goals decide
      · obtain ⟨rfl, rfl, rfl⟩ := h4; decide
      · obtain ⟨rfl, rfl, rfl⟩ := h4; decide
theorem sp4 {b0 b1 b2 r : Nat} (h0 : b0 / 8 = 30) (h3 : 65536 ≤ r) : Go.Lib.IsSpaceP r ↔ (b0 ≤ 32 ∨ b0 = 127 ∨ blkN b0 b1 b2) := by
  constructor
  · intro hs
    exfalso
    rcases hs with h4 | h4 | h4 | h4 | h4 | h4 | h4 | h4 | h4 | h4 | h4 <;> omega
  · rintro (h4 | h4 | h4)
    · omega
    · omega
    · have := blkN_lead h4; omega
/-- a blank or a control character stands at i -/
def spc (s : ByteArray) (i : Nat) : Prop := i < s.size ∧ (gb s i ≤ 32 ∨ gb s i = 127 ∨ blk s i)
theorem gb_out {s : ByteArray} {i : Nat} (h : s.size ≤ i) : gb s i = 0 := by
  unfold gb
  have : s.get! i = 0 := by
    rw [ByteArray.get!.eq_1]
    rw [getElem!_neg]
    · rfl
    · simpa using h
  rw [this]; rfl
theorem cnt_iff (s : ByteArray) (i : Nat) : cnt s i = true ↔ gb s i / 64 = 2 := by
  unfold cnt
  rcases Nat.lt_or_ge i s.size with h | h
  · simp [h]
  · have := gb_out h
    simp [this]
/-- what dec says where it reads a letter -/
theorem dec_ok {s : ByteArray} {pos : Nat} (hb : bad s pos = false) :
    (∀ k, 1 ≤ k → k < (Utf8.decode s pos).2 → gb s (pos + k) / 64 = 2) ∧ (Go.Lib.isSpaceR (Utf8.decode s pos).1 = true ↔ (gb s pos ≤ 32 ∨ gb s pos = 127 ∨ blk s pos)) := by
  unfold bad ctl at hb
  rw [Bool.or_eq_false_iff] at hb
  obtain ⟨h1, h2⟩ := hb
  rw [decode_dec] at h1 h2 ⊢
  have l0 := gb_lt s pos; have l1 := gb_lt s (pos + 1); have l2 := gb_lt s (pos + 2); have l3 := gb_lt s (pos + 3)
  have q1 := cnt_iff s (pos + 1); have q2 := cnt_iff s (pos + 2); have q3 := cnt_iff s (pos + 3)
  unfold blk
  rw [Go.Lib.isSpaceR_iff]
  have g1 : ∀ k, k = 1 → gb s (pos + k) = gb s (pos + 1) := by rintro k rfl; rfl
  have g2 : ∀ k, k = 2 → gb s (pos + k) = gb s (pos + 2) := by rintro k rfl; rfl
  have g3 : ∀ k, k = 3 → gb s (pos + k) = gb s (pos + 3) := by rintro k rfl; rfl
  generalize cnt s (pos + 1) = c1 at *
  generalize cnt s (pos + 2) = c2 at *
  generalize cnt s (pos + 3) = c3 at *
  generalize gb s (pos + 1) = b1 at *
  generalize gb s (pos + 2) = b2 at *
  generalize gb s (pos + 3) = b3 at *
  generalize hb0 : gb s pos = b0 at *
  unfold dec at h1 h2 ⊢
  by_cases a1 : b0 < 128
  · rw [if_pos a1] at h1 h2 ⊢
    simp at h2
    exact ⟨fun k h3 h4 => by simp at h4; omega, sp1 a1 (by omega) (by omega)⟩
  rw [if_neg a1] at h1 h2 ⊢
  by_cases a2 : (b0 / 32 == 6 && c1) = true
  · rw [if_pos a2] at h1 h2 ⊢
    simp only [Bool.and_eq_true, beq_iff_eq] at a2
    have := q1.1 a2.2
    split at h1
    · rename_i h5
      rw [if_pos h5]
      exact ⟨fun k h3 h4 => by simp at h4; rw [g1 k (by omega)]; exact this, sp2 a2.1 this h5⟩
    · simp at h1
  rw [if_neg a2] at h1 h2 ⊢
  by_cases a3 : (b0 / 16 == 14 && c1 && c2) = true
  · rw [if_pos a3] at h1 h2 ⊢
    simp only [Bool.and_eq_true, beq_iff_eq] at a3
    have e1 := q1.1 a3.1.2
    have e2 := q2.1 a3.2
    split at h1
    · rename_i h5
      rw [if_pos h5]
      refine ⟨fun k h3 h4 => ?_, ?_⟩
      · simp at h4
        rcases (by omega : k = 1 ∨ k = 2) with h | h
        · rw [g1 k h]; exact e1
        · rw [g2 k h]; exact e2
      · simp only [Bool.and_eq_true, decide_eq_true_eq] at h5
        exact sp3 a3.1.1 e1 e2 h5.1
    · simp at h1
  rw [if_neg a3] at h1 h2 ⊢
  by_cases a4 : (b0 / 8 == 30 && c1 && c2 && c3) = true
  · rw [if_pos a4] at h1 h2 ⊢
    simp only [Bool.and_eq_true, beq_iff_eq] at a4
    have e1 := q1.1 a4.1.1.2
    have e2 := q2.1 a4.1.2
    have e3 := q3.1 a4.2
    split at h1
    · rename_i h5
      rw [if_pos h5]
      simp only [Bool.and_eq_true, decide_eq_true_eq] at h5
      refine ⟨fun k h3 h4 => ?_, ?_⟩
      · simp at h4
        rcases (by omega : k = 1 ∨ k = 2 ∨ k = 3) with h | h | h
        · rw [g1 k h]; exact e1
        · rw [g2 k h]; exact e2
        · rw [g3 k h]; exact e3
      · exact sp4 a4.1.1.1 h5.1
    · simp at h1
  · rw [if_neg a4] at h1
    simp at h1
theorem spc_not {s : ByteArray} {i : Nat} (h : gb s i / 64 = 2) : ¬ spc s i := by
  rintro ⟨_, h1 | h1 | h1⟩
  · omega
  · omega
  · have := blkN_lead h1; omega
theorem pf_val (s : ByteArray) : ∀ f pos, pf s f pos = 0 ∨ pf s f pos = 65
  | 0, _ => .inl rfl
  | f + 1, pos => by
    unfold pf
    split
    · split
      · exact .inr rfl
      · exact pf_val s f _
    · exact .inl rfl
theorem sp_from (s : ByteArray) : ∀ (f pos : Nat), s.size - pos ≤ f → pf s f pos = 0 → (0 ≤ Go.Lib.idxFuncFrom Go.Lib.isSpaceR true s f pos ↔ ∃ i, pos ≤ i ∧ spc s i)
  | 0, pos, hf, _ => by
    unfold Go.Lib.idxFuncFrom
    constructor
    · intro h; omega
    · rintro ⟨i, h1, h2, _⟩; omega
  | f + 1, pos, hf, hp => by
    unfold Go.Lib.idxFuncFrom
    unfold pf at hp
    by_cases hlt : pos < s.size
    · rw [if_pos hlt] at hp ⊢
      cases hb : bad s pos with
      | true => rw [hb] at hp; simp at hp
      | false =>
        rw [hb] at hp
        simp only [Bool.false_eq_true, if_false] at hp
        obtain ⟨h1, h2⟩ := dec_ok hb
        have hpos := dec_pos (gb s pos) (gb s (pos + 1)) (gb s (pos + 2)) (gb s (pos + 3)) (cnt s (pos + 1)) (cnt s (pos + 2)) (cnt s (pos + 3))
        rw [← decode_dec] at hpos
        by_cases hs : Go.Lib.isSpaceR (Utf8.decode s pos).1 = true
        · rw [if_pos hs]
          exact ⟨fun _ => ⟨pos, Nat.le_refl _, hlt, h2.1 hs⟩, fun _ => by omega⟩
        · rw [if_neg hs, sp_from s f _ (by omega) hp]
          constructor
          · rintro ⟨i, h3, h4⟩; exact ⟨i, by omega, h4⟩
          · rintro ⟨i, h3, h4⟩
            refine ⟨i, ?_, h4⟩
            rcases Nat.lt_or_ge i (pos + (Utf8.decode s pos).2) with h5 | h5
            · exfalso
              rcases Nat.eq_or_lt_of_le h3 with rfl | h6
              · exact hs (h2.2 h4.2)
              · refine spc_not (h1 (i - pos) (by omega) (by omega)) ?_
                rwa [show pos + (i - pos) = i by omega]
            · exact h5
    · rw [if_neg hlt]
      constructor
      · intro h; omega
      · rintro ⟨i, h1, h2, _⟩; omega
theorem gb_pos {s : ByteArray} {i : Nat} (h : gb s i ≠ 0) : i < s.size := by
  rcases Nat.lt_or_ge i s.size with h1 | h1
  · exact h1
  · exact absurd (gb_out h1) h
theorem gb_list (s : ByteArray) (i : Nat) : gb s i = (s.data.toList.getD i 0).toNat := by
  unfold gb
  rcases Nat.lt_or_ge i s.size with h | h
  · have h2 : i < s.data.toList.length := by simpa using h
    have : s.get! i = s.data.toList[i] := by
      rw [ByteArray.get!.eq_1, getElem!_pos _ _ (by simpa using h)]
      simp
    rw [this, List.getD_eq_getElem?_getD, List.getElem?_eq_getElem h2]
    rfl
  · have h2 : s.data.toList.length ≤ i := by simpa using h
    have := gb_out h
    unfold gb at this
    rw [this, List.getD_eq_getElem?_getD, List.getElem?_eq_none h2]
    rfl
theorem ext_iff {s b : ByteArray} {i : Nat} (hi : i + b.size ≤ s.size) : s.extract i (i + b.size) = b ↔ ∀ k, k < b.size → gb s (i + k) = gb b k := by
  have hl : (s.extract i (i + b.size)).data.toList = (s.data.toList.drop i).take b.size := by
    rw [Go.Lib.extract_data, show i + b.size - i = b.size by omega]
  have hs := Go.Lib.size_eq s
  have hbs := Go.Lib.size_eq b
  constructor
  · intro h k hk
    rw [gb_list, gb_list]
    conv => rhs; rw [← h, hl]
    rw [List.getD_eq_getElem?_getD, List.getD_eq_getElem?_getD, List.getElem?_take_of_lt hk, List.getElem?_drop]
  · intro h
    have : (s.extract i (i + b.size)).data.toList = b.data.toList := by
      rw [hl]
      apply List.ext_getElem
      · rw [List.length_take, List.length_drop]; omega
      · intro k h1 h2
        have := h k (by omega)
        rw [gb_list, gb_list, List.getD_eq_getElem?_getD, List.getD_eq_getElem?_getD, List.getElem?_eq_getElem h2, List.getElem?_eq_getElem (by omega)] at this
        simp only [Option.getD_some] at this
        rw [List.getElem_take, List.getElem_drop]
        exact UInt8.toNat_inj.1 this
    exact ByteArray.ext (Array.toList_inj.1 this)
/-- the document's blanks -/
def BLK : List (List UInt8) := [[194, 133], [194, 160], [225, 154, 128], [226, 128, 128], [226, 128, 129], [226, 128, 130], [226, 128, 131], [226, 128, 132], [226, 128, 133], [226, 128, 134], [226, 128, 135], [226, 128, 136], [226, 128, 137], [226, 128, 138], [226, 128, 168], [226, 128, 169], [226, 128, 175], [226, 129, 159], [227, 128, 128]]
def hold (s : ByteArray) (l : List UInt8) (i : Nat) : Prop := i + l.length ≤ s.size ∧ s.extract i (i + l.length) = ⟨l.toArray⟩
theorem hold_two {s : ByteArray} {a b : UInt8} {i : Nat} (ha : b.toNat ≠ 0) : hold s [a, b] i ↔ gb s i = a.toNat ∧ gb s (i + 1) = b.toNat := by
  unfold hold
  constructor
  · rintro ⟨h1, h2⟩
    have := (ext_iff (s := s) (b := ⟨[a, b].toArray⟩) (i := i) h1).1 h2
    exact ⟨this 0 (show 0 < 2 by decide), this 1 (show 1 < 2 by decide)⟩
  · rintro ⟨h1, h2⟩
    have h3 := gb_pos (s := s) (i := i + 1) (by omega)
    have h4 : i + ByteArray.size ⟨[a, b].toArray⟩ ≤ s.size := by show i + 2 ≤ s.size; omega
    refine ⟨h4, (ext_iff (s := s) (b := ⟨[a, b].toArray⟩) (i := i) h4).2 fun k hk => ?_⟩
    have hk' : k < 2 := hk
    rcases (by omega : k = 0 ∨ k = 1) with rfl | rfl
    · exact h1
    · exact h2
theorem hold_three {s : ByteArray} {a b c : UInt8} {i : Nat} (ha : c.toNat ≠ 0) : hold s [a, b, c] i ↔ gb s i = a.toNat ∧ gb s (i + 1) = b.toNat ∧ gb s (i + 2) = c.toNat := by
  unfold hold
  constructor
  · rintro ⟨h1, h2⟩
    have := (ext_iff (s := s) (b := ⟨[a, b, c].toArray⟩) (i := i) h1).1 h2
    exact ⟨this 0 (show 0 < 3 by decide), this 1 (show 1 < 3 by decide), this 2 (show 2 < 3 by decide)⟩
  · rintro ⟨h1, h2, h3⟩
    have h5 := gb_pos (s := s) (i := i + 2) (by omega)
    have h4 : i + ByteArray.size ⟨[a, b, c].toArray⟩ ≤ s.size := by show i + 3 ≤ s.size; omega
    refine ⟨h4, (ext_iff (s := s) (b := ⟨[a, b, c].toArray⟩) (i := i) h4).2 fun k hk => ?_⟩
    have hk' : k < 3 := hk
    rcases (by omega : k = 0 ∨ k = 1 ∨ k = 2) with rfl | rfl | rfl
    · exact h1
    · exact h2
    · exact h3
theorem hold_blk (s : ByteArray) (i : Nat) : (∃ l, l ∈ BLK ∧ hold s l i) ↔ blk s i := by
  constructor
  · rintro ⟨l, hl, hh⟩
    simp only [BLK, List.mem_cons, List.not_mem_nil, or_false] at hl
    rcases hl with rfl | rfl | rfl | rfl | rfl | rfl | rfl | rfl | rfl | rfl | rfl | rfl | rfl | rfl | rfl | rfl | rfl | rfl | rfl
    · have h := (hold_two (by decide)).1 hh; exact .inl ⟨h.1, .inl h.2⟩
    · have h := (hold_two (by decide)).1 hh; exact .inl ⟨h.1, .inr h.2⟩
    · have h := (hold_three (by decide)).1 hh; exact .inr (.inl ⟨h.1, h.2.1, h.2.2⟩)
    · have h := (hold_three (by decide)).1 hh; exact .inr (.inr (.inl ⟨h.1, h.2.1, .inl ⟨show _ ≤ _ by rw [h.2.2]; decide, show _ ≤ _ by rw [h.2.2]; decide⟩⟩))
    · have h := (hold_three (by decide)).1 hh; exact .inr (.inr (.inl ⟨h.1, h.2.1, .inl ⟨show _ ≤ _ by rw [h.2.2]; decide, show _ ≤ _ by rw [h.2.2]; decide⟩⟩))
    · have h := (hold_three (by decide)).1 hh; exact .inr (.inr (.inl ⟨h.1, h.2.1, .inl ⟨show _ ≤ _ by rw [h.2.2]; decide, show _ ≤ _ by rw [h.2.2]; decide⟩⟩))
    · have h := (hold_three (by decide)).1 hh; exact .inr (.inr (.inl ⟨h.1, h.2.1, .inl ⟨show _ ≤ _ by rw [h.2.2]; decide, show _ ≤ _ by rw [h.2.2]; decide⟩⟩))
    · have h := (hold_three (by decide)).1 hh; exact .inr (.inr (.inl ⟨h.1, h.2.1, .inl ⟨show _ ≤ _ by rw [h.2.2]; decide, show _ ≤ _ by rw [h.2.2]; decide⟩⟩))
    · have h := (hold_three (by decide)).1 hh; exact .inr (.inr (.inl ⟨h.1, h.2.1, .inl ⟨show _ ≤ _ by rw [h.2.2]; decide, show _ ≤ _ by rw [h.2.2]; decide⟩⟩))
    · have h := (hold_three (by decide)).1 hh; exact .inr (.inr (.inl ⟨h.1, h.2.1, .inl ⟨show _ ≤ _ by rw [h.2.2]; decide, show _ ≤ _ by rw [h.2.2]; decide⟩⟩))
    · have h := (hold_three (by decide)).1 hh; exact .inr (.inr (.inl ⟨h.1, h.2.1, .inl ⟨show _ ≤ _ by rw [h.2.2]; decide, show _ ≤ _ by rw [h.2.2]; decide⟩⟩))
    · have h := (hold_three (by decide)).1 hh; exact .inr (.inr (.inl ⟨h.1, h.2.1, .inl ⟨show _ ≤ _ by rw [h.2.2]; decide, show _ ≤ _ by rw [h.2.2]; decide⟩⟩))
    · have h := (hold_three (by decide)).1 hh; exact .inr (.inr (.inl ⟨h.1, h.2.1, .inl ⟨show _ ≤ _ by rw [h.2.2]; decide, show _ ≤ _ by rw [h.2.2]; decide⟩⟩))
    · have h := (hold_three (by decide)).1 hh; exact .inr (.inr (.inl ⟨h.1, h.2.1, .inl ⟨show _ ≤ _ by rw [h.2.2]; decide, show _ ≤ _ by rw [h.2.2]; decide⟩⟩))
    · have h := (hold_three (by decide)).1 hh; exact .inr (.inr (.inl ⟨h.1, h.2.1, .inr (.inl h.2.2)⟩))
    · have h := (hold_three (by decide)).1 hh; exact .inr (.inr (.inl ⟨h.1, h.2.1, .inr (.inr (.inl h.2.2))⟩))
    · have h := (hold_three (by decide)).1 hh; exact .inr (.inr (.inl ⟨h.1, h.2.1, .inr (.inr (.inr h.2.2))⟩))
    · have h := (hold_three (by decide)).1 hh; exact .inr (.inr (.inr (.inl ⟨h.1, h.2.1, h.2.2⟩)))
    · have h := (hold_three (by decide)).1 hh; exact .inr (.inr (.inr (.inr (⟨h.1, h.2.1, h.2.2⟩))))
  · intro h
    rcases h with h | h | h | h | h
    · rcases h.2 with h2 | h2
      · exact ⟨[194, 133], by decide, (hold_two (by decide)).2 ⟨h.1, h2⟩⟩
      · exact ⟨[194, 160], by decide, (hold_two (by decide)).2 ⟨h.1, h2⟩⟩
    · exact ⟨[225, 154, 128], by decide, (hold_three (by decide)).2 h⟩
    · rcases h.2.2 with h2 | h2 | h2 | h2
      · obtain ⟨k, hk⟩ : ∃ k, gb s (i + 2) = 128 + k := ⟨gb s (i + 2) - 128, by omega⟩
        rcases (by omega : k = 0 ∨ k = 1 ∨ k = 2 ∨ k = 3 ∨ k = 4 ∨ k = 5 ∨ k = 6 ∨ k = 7 ∨ k = 8 ∨ k = 9 ∨ k = 10) with rfl | rfl | rfl | rfl | rfl | rfl | rfl | rfl | rfl | rfl | rfl
        · exact ⟨[226, 128, 128], by decide, (hold_three (by decide)).2 ⟨h.1, h.2.1, hk⟩⟩
        · exact ⟨[226, 128, 129], by decide, (hold_three (by decide)).2 ⟨h.1, h.2.1, hk⟩⟩
        · exact ⟨[226, 128, 130], by decide, (hold_three (by decide)).2 ⟨h.1, h.2.1, hk⟩⟩
        · exact ⟨[226, 128, 131], by decide, (hold_three (by decide)).2 ⟨h.1, h.2.1, hk⟩⟩
        · exact ⟨[226, 128, 132], by decide, (hold_three (by decide)).2 ⟨h.1, h.2.1, hk⟩⟩
        · exact ⟨[226, 128, 133], by decide, (hold_three (by decide)).2 ⟨h.1, h.2.1, hk⟩⟩
        · exact ⟨[226, 128, 134], by decide, (hold_three (by decide)).2 ⟨h.1, h.2.1, hk⟩⟩
        · exact ⟨[226, 128, 135], by decide, (hold_three (by decide)).2 ⟨h.1, h.2.1, hk⟩⟩
        · exact ⟨[226, 128, 136], by decide, (hold_three (by decide)).2 ⟨h.1, h.2.1, hk⟩⟩
        · exact ⟨[226, 128, 137], by decide, (hold_three (by decide)).2 ⟨h.1, h.2.1, hk⟩⟩
        · exact ⟨[226, 128, 138], by decide, (hold_three (by decide)).2 ⟨h.1, h.2.1, hk⟩⟩
      · exact ⟨[226, 128, 168], by decide, (hold_three (by decide)).2 ⟨h.1, h.2.1, h2⟩⟩
      · exact ⟨[226, 128, 169], by decide, (hold_three (by decide)).2 ⟨h.1, h.2.1, h2⟩⟩
      · exact ⟨[226, 128, 175], by decide, (hold_three (by decide)).2 ⟨h.1, h.2.1, h2⟩⟩
    · exact ⟨[226, 129, 159], by decide, (hold_three (by decide)).2 h⟩
    · exact ⟨[227, 128, 128], by decide, (hold_three (by decide)).2 h⟩
/-- what both sides answer of a name -/
def nameR (s : ByteArray) : Int := if s.size = 0 ∨ 100 < s.size ∨ plainR s ≠ 0 ∨ 0 ≤ Go.Lib.indexByte s.data.toList 43 ∨ 0 ≤ Go.Lib.idxFunc Go.Lib.isSpaceR true s then 70 else 0
theorem plus_iff (s : ByteArray) : 0 ≤ Go.Lib.indexByte s.data.toList 43 ↔ ∃ i, gb s i = 43 := by
  constructor
  · intro h
    obtain ⟨o, ho⟩ := Int.eq_ofNat_of_zero_le h
    have := (Go.Lib.indexByte_some ho).1
    refine ⟨o, ?_⟩
    rw [gb_list, List.getD_eq_getElem?_getD, this]
    rfl
  · rintro ⟨i, hi⟩
    rcases Int.lt_or_le (Go.Lib.indexByte s.data.toList 43) 0 with h | h
    · have h1 := Go.Lib.indexByte_ge s.data.toList 43
      have h2 := Go.Lib.indexByte_none (l := s.data.toList) (c := 43) (by omega) i
      have h3 := gb_pos (s := s) (i := i) (by omega)
      rw [Go.Lib.size_eq] at h3
      rw [gb_list, List.getD_eq_getElem?_getD, List.getElem?_eq_getElem h3] at hi
      rw [List.getElem?_eq_getElem h3] at h2
      exact absurd (congrArg some (UInt8.toNat_inj.1 (show (s.data.toList[i]).toNat = (43 : UInt8).toNat from hi))) h2
    · exact h
theorem plain_pf {s : ByteArray} (hs : s.size ≤ 100) (hp : plainR s = 0) : pf s s.size 0 = 0 := by
  unfold plainR at hp
  rw [if_neg (by omega)] at hp
  exact hp
/-- a name that may be -/
theorem name_iff (s : ByteArray) : nameR s = 0 ↔ 0 < s.size ∧ s.size ≤ 100 ∧ plainR s = 0 ∧ ∀ i, i < s.size → ¬ (gb s i ≤ 32 ∨ gb s i = 43 ∨ gb s i = 127) ∧ ¬ blk s i := by
  unfold nameR
  constructor
  · intro h
    split at h
    · omega
    · rename_i h2
      have h3 : s.size ≤ 100 := by omega
      have h4 : plainR s = 0 := by
        exact Decidable.not_not.1 fun h => h2 (.inr (.inr (.inl h)))
      refine ⟨by omega, h3, h4, fun i hi => ?_⟩
      have h5 := (not_congr (sp_from s s.size 0 (by omega) (plain_pf h3 h4))).1 (fun h => h2 (.inr (.inr (.inr (.inr h)))))
      have h6 := (not_congr (plus_iff s)).1 (fun h => h2 (.inr (.inr (.inr (.inl h)))))
      refine ⟨?_, fun hb => h5 ⟨i, by omega, hi, .inr (.inr hb)⟩⟩
      rintro (h | h | h)
      · exact h5 ⟨i, by omega, hi, .inl h⟩
      · exact h6 ⟨i, h⟩
      · exact h5 ⟨i, by omega, hi, .inr (.inl h)⟩
  · rintro ⟨h1, h2, h3, h4⟩
    rw [if_neg]
    rintro (h | h | h | h | h)
    · omega
    · omega
    · exact h h3
    · obtain ⟨i, hi⟩ := (plus_iff s).1 h
      exact (h4 i (gb_pos (by omega))).1 (.inr (.inl hi))
    · obtain ⟨i, _, hi, h5⟩ := (sp_from s s.size 0 (by omega) (plain_pf h2 h3)).1 h
      rcases h5 with h5 | h5 | h5
      · exact (h4 i hi).1 (.inl h5)
      · exact (h4 i hi).1 (.inr (.inr h5))
      · exact (h4 i hi).2 h5
theorem name_val (s : ByteArray) : nameR s = 0 ∨ nameR s = 70 := by unfold nameR; split <;> simp
end Go.Proofs.YtaobnnlcfefodaaGreatDoor
