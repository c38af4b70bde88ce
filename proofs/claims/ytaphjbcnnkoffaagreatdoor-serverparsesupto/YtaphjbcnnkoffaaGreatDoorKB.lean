import Derived.Test.YtaphjbcnnkoffaaGreatDoornLt2
import Derived.Lib.IndexLaws
import Derived.Lib.Bytealg
import Derived.Test.YtaphjbcnnkoffaaGreatDoorTw
import Derived.Test.YtaphjbcnnkoffaaGreatDoorSl
import Derived.Laws.Concat
import Derived.Test.YtaphjbcnnkoffaaGreatDoorLp
import Derived.Test.YtaphjbcnnkoffaaGreatDoorBd
import Derived.Lib.ItoaNum
import Derived.Lib.ParseIntBTie
import Derived.Test.YtaphjbcnnkoffaaGreatDoorTa
import Derived.Test.YtaphjbcnnkoffaaGreatDoorHg
import Derived.Laws.OwnMore
import Derived.ChangeSlices
import Derived.ProofKit
import Derived.OpenShut
import Derived.WideKeyArgs
import Derived.DataReads
import Derived.Test.YtaphjbcnnkoffaaGreatDoorSn
import Derived.Laws.BitsAllLaws
import Derived.Deep.AppendSrc
import Derived.Lib.ConvBytes
import Derived.Test.YtaphjbcnnkoffaaGreatDoorSm
import Derived.Test.YtaphjbcnnkoffaaGreatDoornPl
import Derived.RangeFuncBox
import Derived.RangeFuncNested
import Derived.RangeFuncBound
import Derived.RangeFuncCalls
import Derived.RangeFuncLeaves
import Derived.RangeFuncWrites
import Derived.OwnWalkIn
import Derived.TacticsInMore
import Derived.LoopNIn
import Derived.LoopIn
import Derived.Test.YtaphjbcnnkoffaaGreatDoorBl
import Derived.Test.YtaphjbcnnkoffaaGreatDoorTb
import Derived.Lib.Strings
import Derived.Deep.MidRow
import Derived.Shelf.Small.Wraps
import Derived.Laws.Cover3
import Derived.Deep.RegionHeld3
namespace Go.Proofs.YtaphjbcnnkoffaaGreatDoor
open Go.RowKit TextNum

theorem get_bang_out {s : ByteArray} {k : Nat} (h : s.size ≤ k) : s.get! k = 0 := by
  obtain ⟨d⟩ := s
  have h' : d.size ≤ k := h
  show d[k]! = 0
  rw [getElem!_neg d k (by omega)]
  rfl
theorem gb_ext (s : ByteArray) (pos k : Nat) : gb (s.extract pos s.size) k = gb s (pos + k) := by
  unfold gb
  by_cases h : pos + k < s.size
  · have h2 : k < (s.extract pos s.size).size := by simp; omega
    have e1 := get_bang h2
    have e2 := get_bang h
    rw [drop_extract, List.getElem?_drop, e2] at e1
    rw [Option.some.inj e1]
  · rw [get_bang_out (s := s.extract pos s.size) (by simp; omega), get_bang_out (s := s) (by omega)]
theorem cnt_ext (s : ByteArray) (pos k : Nat) : cnt (s.extract pos s.size) k = cnt s (pos + k) := by
  unfold cnt
  rw [gb_ext]
  congr 1
  rw [decide_eq_decide]
  simp
  omega
theorem dec_ext (s : ByteArray) (pos : Nat) : Utf8.decode (s.extract pos s.size) 0 = Utf8.decode s pos := by
  rw [decode_dec, decode_dec, gb_ext, gb_ext, gb_ext, gb_ext, cnt_ext, cnt_ext, cnt_ext]
  simp only [Nat.zero_add, Nat.add_zero]
theorem dec_low {b0 b1 b2 b3 : Nat} {c1 c2 c3 : Bool} (h : b0 < 128) : (dec b0 b1 b2 b3 c1 c2 c3) = (b0, 1) := by unfold dec; rw [if_pos h]
theorem dec_high {b0 b1 b2 b3 : Nat} {c1 c2 c3 : Bool} (h : 128 ≤ b0) : 128 ≤ (dec b0 b1 b2 b3 c1 c2 c3).1 := by
  unfold dec
  rw [if_neg (by omega)]
  split
  · split <;> simp; omega
  · split
    · split
      · rename_i hv; simp only [Bool.and_eq_true, decide_eq_true_eq] at hv; simp; omega
      · simp
    · split
      · split
        · rename_i hv; simp only [Bool.and_eq_true, decide_eq_true_eq] at hv; simp; omega
        · simp
      · simp
/-- the same, by the first byte -/
def bct (b : Nat) : Bool := decide (b = 127) || (decide (b < 32) && decide (b ≠ 10))
theorem bad_by (s : ByteArray) (pos : Nat) : bad s pos = (decide (lwd (Utf8.decode s pos) = 0) || bct (gb s pos)) := by
  unfold bad
  rw [decode_dec]
  have hp := dec_pos (gb s pos) (gb s (pos + 1)) (gb s (pos + 2)) (gb s (pos + 3)) (cnt s (pos + 1)) (cnt s (pos + 2)) (cnt s (pos + 3))
  have hl := @dec_low (gb s pos) (gb s (pos + 1)) (gb s (pos + 2)) (gb s (pos + 3)) (cnt s (pos + 1)) (cnt s (pos + 2)) (cnt s (pos + 3))
  have hh := @dec_high (gb s pos) (gb s (pos + 1)) (gb s (pos + 2)) (gb s (pos + 3)) (cnt s (pos + 1)) (cnt s (pos + 2)) (cnt s (pos + 3))
  generalize dec (gb s pos) (gb s (pos + 1)) (gb s (pos + 2)) (gb s (pos + 3)) (cnt s (pos + 1)) (cnt s (pos + 2)) (cnt s (pos + 3)) = d at *
  generalize gb s pos = b at *
  have e1 : decide (lwd d = 0) = decide (d = (65533, 1)) := by
    rw [decide_eq_decide]; unfold lwd; split
    · simp_all
    · simp_all; omega
  rw [e1]
  congr 1
  unfold ctl bct
  rw [Bool.eq_iff_iff]
  simp only [Bool.or_eq_true, Bool.and_eq_true, decide_eq_true_eq]
  by_cases hb : b < 128
  · rw [hl hb]; simp only; omega
  · have := hh (by omega); omega

set_option maxRecDepth 100000 in
theorem RPlain_walk (s : ByteArray) (w : World) : Calls Tryz.prog 68 #[.string s] w fun e w' => e = .returned (.int .i64 (plainR s)) ∧ w' = w := by
  go_enter Tryz.func68, Tryz.ntmps68
  by_cases h1 : 1048576 < s.size
  · have d1 : (1048576 : Int) < (s.size : Int) := by omega
    have HR := Hid.of (show plainR s = 2 from if_pos h1)
    go_wp2
    go_ret
    rw [HR.out]
    exact ⟨rfl, rfl⟩
  · have d1 : ¬ (1048576 : Int) < (s.size : Int) := by omega
    have hle : s.size ≤ 1048576 := by omega
    have HR := Hid.of (show plainR s = pf s s.size 0 from if_neg h1)
    clear h1
    go_wp2
    go_loop [3] (fun v3 => ∃ pos f : Nat, v3 = .int .i64 (pos : Int) ∧ pos ≤ s.size + 4 ∧ Hid (pf s s.size 0 = pf s f pos ∧ s.size - pos ≤ f)) (fun v3 => s.size + 5 - (intOf v3).toNat)
    case atStart => exact ⟨0, s.size, rfl, by omega, rfl, by omega⟩
    case round =>
      obtain ⟨pos, f, rfl, hpl, hI⟩ := hrel
      by_cases hlt : pos < s.size
      · obtain ⟨f', hf', hst, hlim⟩ := pf_step hlt hI.out.2
        have hby := bad_by s pos
        have hge : gb s pos = s[pos].toNat := (gb_get hlt).symm
        rw [hge] at hby
        have hw4 : (Utf8.decode s pos).2 ≤ 4 := by
          rw [decode_dec]; unfold dec; repeat' split
          all_goals simp
        have hw1 := dec_pos (gb s pos) (gb s (pos + 1)) (gb s (pos + 2)) (gb s (pos + 3)) (cnt s (pos + 1)) (cnt s (pos + 2)) (cnt s (pos + 3))
        rw [← decode_dec] at hw1
        have hlw : lwd (Utf8.decode s pos) = 0 ∨ lwd (Utf8.decode s pos) = (Utf8.decode s pos).2 := by unfold lwd; split <;> simp
        have hsz : 0 < (s.extract pos s.size).size := by simp; omega
        have hsz2 : (s.extract pos s.size).size ≤ 1048576 := by simp; omega
        have hcall := letter_walk (s.extract pos s.size) hsz hsz2 w
        rw [dec_ext] at hcall
        have HX := Hid.of (And.intro hst (And.intro hlim hby))
        clear hst hlim hby hf' hge
        generalize lwd (Utf8.decode s pos) = n at *
        generalize (Utf8.decode s pos).2 = dw at *
        generalize bad s pos = bd at *
        have hb0 : s[pos].toNat < 256 := s[pos].toNat_lt
        generalize hq : s[pos].toNat = b0 at *
        have hHL := Hid.of hlw
        have hHH := Hid.of hcall
        clear hlw hcall hsz hsz2
        have hple : (pos : Int) ≤ (s.size : Int) := by omega
        go_wp2_with fail
        refine hHH.out.mono ?_
        rintro e w2 ⟨rfl, hw⟩
        obtain rfl := hw.symm
        clear hHH
        dsimp only
        by_cases hn : n = 0
        · subst hn
          have HF := Hid.of (show plainR s = 65 by rw [HR.out, hI.out.1, HX.out.1, HX.out.2.2]; rfl)
          go_wp2
          go_ret
          rw [HF.out]
          exact ⟨rfl, rfl⟩
        · have hn0 : ((n : Int) == 0) = false := by simpa using hn
          obtain rfl : n = dw := hHL.out.resolve_left hn
          by_cases h127 : b0 = 127
          · subst h127
            have HF := Hid.of (show plainR s = 65 by rw [HR.out, hI.out.1, HX.out.1, HX.out.2.2]; simp [bct])
            go_wp2
            go_ret
            rw [HF.out]
            exact ⟨rfl, rfl⟩
          · have e127 : ((b0 : Int) == 127) = false := by simp; omega
            by_cases h32 : b0 < 32
            · have e32 : decide ((b0 : Int) < 32) = true := by simp; omega
              have e32' : (b0 : Int) < 32 := by omega
              by_cases h10 : b0 = 10
              · subst h10
                have HF := Hid.of (show pf s s.size 0 = pf s f' (pos + n) by rw [hI.out.1, HX.out.1, HX.out.2.2]; simp [bct, hn])
                go_wp2
                go_round
                case rel => exact ⟨pos + n, f', by go_num, by omega, HF.out, HX.out.2.1⟩
                case measure => simp [intOf]; omega
              · have e10 : ((b0 : Int) != 10) = true := by simp; omega
                have HF := Hid.of (show plainR s = 65 by rw [HR.out, hI.out.1, HX.out.1, HX.out.2.2]; simp [bct, h32, h10])
                go_wp2
                go_ret
                rw [HF.out]
                exact ⟨rfl, rfl⟩
            · have e32 : decide ((b0 : Int) < 32) = false := by simp; omega
              have HF := Hid.of (show pf s s.size 0 = pf s f' (pos + n) by rw [hI.out.1, HX.out.1, HX.out.2.2]; simp [bct, hn, h127, h32])
              go_wp2
              go_round
              case rel => exact ⟨pos + n, f', by go_num, by omega, HF.out, HX.out.2.1⟩
              case measure => simp [intOf]; omega
      · have HF := Hid.of (show plainR s = 0 by rw [HR.out, hI.out.1, pf_end (by omega)])
        have hlt' : ¬ (pos : Int) < (s.size : Int) := by omega
        go_wp2
        go_ret
        rw [HF.out]
        exact ⟨rfl, rfl⟩
end Go.Proofs.YtaphjbcnnkoffaaGreatDoor
namespace Go.Proofs.YtaphjbcnnkoffaaGreatDoor
open Go.RowKit TextNum
/-- a blank of more than one byte, by its bytes -/
def blkN (b0 b1 b2 : Nat) : Prop :=
  (b0 = 194 ∧ (b1 = 133 ∨ b1 = 160)) ∨ (b0 = 225 ∧ b1 = 154 ∧ b2 = 128) ∨ (b0 = 226 ∧ b1 = 128 ∧ ((128 ≤ b2 ∧ b2 ≤ 138) ∨ b2 = 168 ∨ b2 = 169 ∨ b2 = 175)) ∨ (b0 = 226 ∧ b1 = 129 ∧ b2 = 159) ∨ (b0 = 227 ∧ b1 = 128 ∧ b2 = 128)
/-- a blank of more than one byte stands at i -/
def blk (s : ByteArray) (i : Nat) : Prop := blkN (gb s i) (gb s (i + 1)) (gb s (i + 2))
theorem blkN_lead {b0 b1 b2 : Nat} (h : blkN b0 b1 b2) : b0 = 194 ∨ b0 = 225 ∨ b0 = 226 ∨ b0 = 227 := by
  rcases h with h | h | h | h | h
  · exact .inl h.1
  · exact .inr (.inl h.1)
  · exact .inr (.inr (.inl h.1))
  · exact .inr (.inr (.inl h.1))
  · exact .inr (.inr (.inr h.1))
theorem sp1 {b0 b1 b2 : Nat} (h : b0 < 128) (hc : ¬ (b0 < 32 ∧ b0 ≠ 10)) (hd : b0 ≠ 127) : Go.Lib.IsSpaceP b0 ↔ (b0 ≤ 32 ∨ b0 = 127 ∨ blkN b0 b1 b2) := by
  constructor
  · intro hs
    left
    rcases hs with h1 | h1 | h1 | h1 | h1 | h1 | h1 | h1 | h1 | h1 | h1 <;> omega
  · rintro (h1 | h1 | h1)
    · rcases (by omega : b0 = 10 ∨ b0 = 32) with rfl | rfl <;> decide
    · omega
    · have := blkN_lead h1; omega
theorem sp2 {b0 b1 b2 : Nat} (h0 : b0 / 32 = 6) (h1 : b1 / 64 = 2) (h2 : 128 ≤ b0 % 32 * 64 + b1 % 64) : Go.Lib.IsSpaceP (b0 % 32 * 64 + b1 % 64) ↔ (b0 ≤ 32 ∨ b0 = 127 ∨ blkN b0 b1 b2) := by
  constructor
  · intro hs
    right; right; left
    rcases hs with h3 | h3 | h3 | h3 | h3 | h3 | h3 | h3 | h3 | h3 | h3
    · omega
    · omega
    · exact ⟨by omega, .inl (by omega)⟩
    · exact ⟨by omega, .inr (by omega)⟩
    all_goals omega
  · rintro (h3 | h3 | h3)
    · omega
    · omega
    · rcases h3 with h3 | h3 | h3 | h3 | h3
      · obtain ⟨rfl, rfl | rfl⟩ := h3 <;> decide
      all_goals omega
theorem sp3 {b0 b1 b2 : Nat} (h0 : b0 / 16 = 14) (h1 : b1 / 64 = 2) (h2 : b2 / 64 = 2) (h3 : 2048 ≤ b0 % 16 * 4096 + b1 % 64 * 64 + b2 % 64) : Go.Lib.IsSpaceP (b0 % 16 * 4096 + b1 % 64 * 64 + b2 % 64) ↔ (b0 ≤ 32 ∨ b0 = 127 ∨ blkN b0 b1 b2) := by
  constructor
  · intro hs
    right; right
    rcases hs with h4 | h4 | h4 | h4 | h4 | h4 | h4 | h4 | h4 | h4 | h4
    · omega
    · omega
    · omega
    · omega
    · exact .inr (.inl ⟨by omega, by omega, by omega⟩)
    · exact .inr (.inr (.inl ⟨by omega, by omega, .inl ⟨by omega, by omega⟩⟩))
    · exact .inr (.inr (.inl ⟨by omega, by omega, .inr (.inl (by omega))⟩))
    · exact .inr (.inr (.inl ⟨by omega, by omega, .inr (.inr (.inl (by omega)))⟩))
    · exact .inr (.inr (.inl ⟨by omega, by omega, .inr (.inr (.inr (by omega)))⟩))
    · exact .inr (.inr (.inr (.inl ⟨by omega, by omega, by omega⟩)))
    · exact .inr (.inr (.inr (.inr ⟨by omega, by omega, by omega⟩)))
  · rintro (h4 | h4 | h4)
    · omega
    · omega
    · rcases h4 with h4 | h4 | h4 | h4 | h4
      · omega
      · obtain ⟨rfl, rfl, rfl⟩ := h4; decide
      · obtain ⟨rfl, rfl, h5⟩ := h4
        rcases h5 with h5 | rfl | rfl | rfl
        · exact .inr (.inr (.inr (.inr (.inr (.inl ⟨by omega, by omega⟩)))))
        all_goals decide
      · obtain ⟨rfl, rfl, rfl⟩ := h4; decide
      · obtain ⟨rfl, rfl, rfl⟩ := h4; decide
theorem sp4 {b0 b1 b2 r : Nat} (h0 : b0 / 8 = 30) (h3 : 65536 ≤ r) : Go.Lib.IsSpaceP r ↔ (b0 ≤ 32 ∨ b0 = 127 ∨ blkN b0 b1 b2) := by
  constructor
  · intro hs
    exfalso
    rcases hs with h4 | h4 | h4 | h4 | h4 | h4 | h4 | h4 | h4 | h4 | h4 <;> omega
  · rintro (h4 | h4 | h4)
    · omega
    · omega
    · have := blkN_lead h4; omega
/-- a blank or a control character stands at i -/
def spc (s : ByteArray) (i : Nat) : Prop := i < s.size ∧ (gb s i ≤ 32 ∨ gb s i = 127 ∨ blk s i)
theorem gb_out {s : ByteArray} {i : Nat} (h : s.size ≤ i) : gb s i = 0 := by
  unfold gb
  have : s.get! i = 0 := by
    rw [ByteArray.get!.eq_1]
    rw [getElem!_neg]
    · rfl
    · simpa using h
  rw [this]; rfl
theorem cnt_iff (s : ByteArray) (i : Nat) : cnt s i = true ↔ gb s i / 64 = 2 := by
  unfold cnt
  rcases Nat.lt_or_ge i s.size with h | h
  · simp [h]
  · have := gb_out h
    simp [this]
/-- what dec says where it reads a letter -/
theorem dec_ok {s : ByteArray} {pos : Nat} (hb : bad s pos = false) :
    (∀ k, 1 ≤ k → k < (Utf8.decode s pos).2 → gb s (pos + k) / 64 = 2) ∧ (Go.Lib.isSpaceR (Utf8.decode s pos).1 = true ↔ (gb s pos ≤ 32 ∨ gb s pos = 127 ∨ blk s pos)) := by
  unfold bad ctl at hb
  rw [Bool.or_eq_false_iff] at hb
  obtain ⟨h1, h2⟩ := hb
  rw [decode_dec] at h1 h2 ⊢
  have l0 := gb_lt s pos; have l1 := gb_lt s (pos + 1); have l2 := gb_lt s (pos + 2); have l3 := gb_lt s (pos + 3)
  have q1 := cnt_iff s (pos + 1); have q2 := cnt_iff s (pos + 2); have q3 := cnt_iff s (pos + 3)
  unfold blk
  rw [Go.Lib.isSpaceR_iff]
  have g1 : ∀ k, k = 1 → gb s (pos + k) = gb s (pos + 1) := by rintro k rfl; rfl
  have g2 : ∀ k, k = 2 → gb s (pos + k) = gb s (pos + 2) := by rintro k rfl; rfl
  have g3 : ∀ k, k = 3 → gb s (pos + k) = gb s (pos + 3) := by rintro k rfl; rfl
  generalize cnt s (pos + 1) = c1 at *
  generalize cnt s (pos + 2) = c2 at *
  generalize cnt s (pos + 3) = c3 at *
  generalize gb s (pos + 1) = b1 at *
  generalize gb s (pos + 2) = b2 at *
  generalize gb s (pos + 3) = b3 at *
  generalize hb0 : gb s pos = b0 at *
  unfold dec at h1 h2 ⊢
  by_cases a1 : b0 < 128
  · rw [if_pos a1] at h1 h2 ⊢
    simp at h2
    exact ⟨fun k h3 h4 => by simp at h4; omega, sp1 a1 (by omega) (by omega)⟩
  rw [if_neg a1] at h1 h2 ⊢
  by_cases a2 : (b0 / 32 == 6 && c1) = true
  · rw [if_pos a2] at h1 h2 ⊢
    simp only [Bool.and_eq_true, beq_iff_eq] at a2
    have := q1.1 a2.2
    split at h1
    · rename_i h5
      rw [if_pos h5]
      exact ⟨fun k h3 h4 => by simp at h4; rw [g1 k (by omega)]; exact this, sp2 a2.1 this h5⟩
    · simp at h1
  rw [if_neg a2] at h1 h2 ⊢
  by_cases a3 : (b0 / 16 == 14 && c1 && c2) = true
  · rw [if_pos a3] at h1 h2 ⊢
    simp only [Bool.and_eq_true, beq_iff_eq] at a3
    have e1 := q1.1 a3.1.2
    have e2 := q2.1 a3.2
    split at h1
    · rename_i h5
      rw [if_pos h5]
      refine ⟨fun k h3 h4 => ?_, ?_⟩
      · simp at h4
        rcases (by omega : k = 1 ∨ k = 2) with h | h
        · rw [g1 k h]; exact e1
        · rw [g2 k h]; exact e2
      · simp only [Bool.and_eq_true, decide_eq_true_eq] at h5
        exact sp3 a3.1.1 e1 e2 h5.1
    · simp at h1
  rw [if_neg a3] at h1 h2 ⊢
  by_cases a4 : (b0 / 8 == 30 && c1 && c2 && c3) = true
  · rw [if_pos a4] at h1 h2 ⊢
    simp only [Bool.and_eq_true, beq_iff_eq] at a4
    have e1 := q1.1 a4.1.1.2
    have e2 := q2.1 a4.1.2
    have e3 := q3.1 a4.2
    split at h1
    · rename_i h5
      rw [if_pos h5]
      simp only [Bool.and_eq_true, decide_eq_true_eq] at h5
      refine ⟨fun k h3 h4 => ?_, ?_⟩
      · simp at h4
        rcases (by omega : k = 1 ∨ k = 2 ∨ k = 3) with h | h | h
        · rw [g1 k h]; exact e1
        · rw [g2 k h]; exact e2
        · rw [g3 k h]; exact e3
      · exact sp4 a4.1.1.1 h5.1
    · simp at h1
  · rw [if_neg a4] at h1
    simp at h1
theorem spc_not {s : ByteArray} {i : Nat} (h : gb s i / 64 = 2) : ¬ spc s i := by
  rintro ⟨_, h1 | h1 | h1⟩
  · omega
  · omega
  · have := blkN_lead h1; omega
theorem pf_val (s : ByteArray) : ∀ f pos, pf s f pos = 0 ∨ pf s f pos = 65
  | 0, _ => .inl rfl
  | f + 1, pos => by
    unfold pf
    split
    · split
      · exact .inr rfl
      · exact pf_val s f _
    · exact .inl rfl
theorem sp_from (s : ByteArray) : ∀ (f pos : Nat), s.size - pos ≤ f → pf s f pos = 0 → (0 ≤ Go.Lib.idxFuncFrom Go.Lib.isSpaceR true s f pos ↔ ∃ i, pos ≤ i ∧ spc s i)
  | 0, pos, hf, _ => by
    unfold Go.Lib.idxFuncFrom
    constructor
    · intro h; omega
    · rintro ⟨i, h1, h2, _⟩; omega
  | f + 1, pos, hf, hp => by
    unfold Go.Lib.idxFuncFrom
    unfold pf at hp
    by_cases hlt : pos < s.size
    · rw [if_pos hlt] at hp ⊢
      cases hb : bad s pos with
      | true => rw [hb] at hp; simp at hp
      | false =>
        rw [hb] at hp
        simp only [Bool.false_eq_true, if_false] at hp
        obtain ⟨h1, h2⟩ := dec_ok hb
        have hpos := dec_pos (gb s pos) (gb s (pos + 1)) (gb s (pos + 2)) (gb s (pos + 3)) (cnt s (pos + 1)) (cnt s (pos + 2)) (cnt s (pos + 3))
        rw [← decode_dec] at hpos
        by_cases hs : Go.Lib.isSpaceR (Utf8.decode s pos).1 = true
        · rw [if_pos hs]
          exact ⟨fun _ => ⟨pos, Nat.le_refl _, hlt, h2.1 hs⟩, fun _ => by omega⟩
        · rw [if_neg hs, sp_from s f _ (by omega) hp]
          constructor
          · rintro ⟨i, h3, h4⟩; exact ⟨i, by omega, h4⟩
          · rintro ⟨i, h3, h4⟩
            refine ⟨i, ?_, h4⟩
            rcases Nat.lt_or_ge i (pos + (Utf8.decode s pos).2) with h5 | h5
            · exfalso
              rcases Nat.eq_or_lt_of_le h3 with rfl | h6
              · exact hs (h2.2 h4.2)
              · refine spc_not (h1 (i - pos) (by omega) (by omega)) ?_
                rwa [show pos + (i - pos) = i by omega]
            · exact h5
    · rw [if_neg hlt]
      constructor
      · intro h; omega
      · rintro ⟨i, h1, h2, _⟩; omega
theorem gb_pos {s : ByteArray} {i : Nat} (h : gb s i ≠ 0) : i < s.size := by
  rcases Nat.lt_or_ge i s.size with h1 | h1
  · exact h1
  · exact absurd (gb_out h1) h
theorem gb_list (s : ByteArray) (i : Nat) : gb s i = (s.data.toList.getD i 0).toNat := by
  unfold gb
  rcases Nat.lt_or_ge i s.size with h | h
  · have h2 : i < s.data.toList.length := by simpa using h
    have : s.get! i = s.data.toList[i] := by
      rw [ByteArray.get!.eq_1, getElem!_pos _ _ (by simpa using h)]
      simp
    rw [this, List.getD_eq_getElem?_getD, List.getElem?_eq_getElem h2]
    rfl
  · have h2 : s.data.toList.length ≤ i := by simpa using h
    have := gb_out h
    unfold gb at this
    rw [this, List.getD_eq_getElem?_getD, List.getElem?_eq_none h2]
    rfl
theorem ext_iff {s b : ByteArray} {i : Nat} (hi : i + b.size ≤ s.size) : s.extract i (i + b.size) = b ↔ ∀ k, k < b.size → gb s (i + k) = gb b k := by
  have hl : (s.extract i (i + b.size)).data.toList = (s.data.toList.drop i).take b.size := by
    rw [Go.Lib.extract_data, show i + b.size - i = b.size by omega]
  have hs := Go.Lib.size_eq s
  have hbs := Go.Lib.size_eq b
  constructor
  · intro h k hk
    rw [gb_list, gb_list]
    conv => rhs; rw [← h, hl]
    rw [List.getD_eq_getElem?_getD, List.getD_eq_getElem?_getD, List.getElem?_take_of_lt hk, List.getElem?_drop]
  · intro h
    have : (s.extract i (i + b.size)).data.toList = b.data.toList := by
      rw [hl]
      apply List.ext_getElem
      · rw [List.length_take, List.length_drop]; omega
      · intro k h1 h2
        have := h k (by omega)
        rw [gb_list, gb_list, List.getD_eq_getElem?_getD, List.getD_eq_getElem?_getD, List.getElem?_eq_getElem h2, List.getElem?_eq_getElem (by omega)] at this
        simp only [Option.getD_some] at this
        rw [List.getElem_take, List.getElem_drop]
        exact UInt8.toNat_inj.1 this
    exact ByteArray.ext (Array.toList_inj.1 this)
/-- the document's blanks -/
def BLK : List (List UInt8) := [[194, 133], [194, 160], [225, 154, 128], [226, 128, 128], [226, 128, 129], [226, 128, 130], [226, 128, 131], [226, 128, 132], [226, 128, 133], [226, 128, 134], [226, 128, 135], [226, 128, 136], [226, 128, 137], [226, 128, 138], [226, 128, 168], [226, 128, 169], [226, 128, 175], [226, 129, 159], [227, 128, 128]]
def hold (s : ByteArray) (l : List UInt8) (i : Nat) : Prop := i + l.length ≤ s.size ∧ s.extract i (i + l.length) = ⟨l.toArray⟩
theorem hold_two {s : ByteArray} {a b : UInt8} {i : Nat} (ha : b.toNat ≠ 0) : hold s [a, b] i ↔ gb s i = a.toNat ∧ gb s (i + 1) = b.toNat := by
  unfold hold
  constructor
  · rintro ⟨h1, h2⟩
    have := (ext_iff (s := s) (b := ⟨[a, b].toArray⟩) (i := i) h1).1 h2
    exact ⟨this 0 (show 0 < 2 by decide), this 1 (show 1 < 2 by decide)⟩
  · rintro ⟨h1, h2⟩
    have h3 := gb_pos (s := s) (i := i + 1) (by omega)
    have h4 : i + ByteArray.size ⟨[a, b].toArray⟩ ≤ s.size := by show i + 2 ≤ s.size; omega
    refine ⟨h4, (ext_iff (s := s) (b := ⟨[a, b].toArray⟩) (i := i) h4).2 fun k hk => ?_⟩
    have hk' : k < 2 := hk
    rcases (by omega : k = 0 ∨ k = 1) with rfl | rfl
    · exact h1
    · exact h2
theorem hold_three {s : ByteArray} {a b c : UInt8} {i : Nat} (ha : c.toNat ≠ 0) : hold s [a, b, c] i ↔ gb s i = a.toNat ∧ gb s (i + 1) = b.toNat ∧ gb s (i + 2) = c.toNat := by
  unfold hold
  constructor
  · rintro ⟨h1, h2⟩
    have := (ext_iff (s := s) (b := ⟨[a, b, c].toArray⟩) (i := i) h1).1 h2
    exact ⟨this 0 (show 0 < 3 by decide), this 1 (show 1 < 3 by decide), this 2 (show 2 < 3 by decide)⟩
  · rintro ⟨h1, h2, h3⟩
    have h5 := gb_pos (s := s) (i := i + 2) (by omega)
    have h4 : i + ByteArray.size ⟨[a, b, c].toArray⟩ ≤ s.size := by show i + 3 ≤ s.size; omega
    refine ⟨h4, (ext_iff (s := s) (b := ⟨[a, b, c].toArray⟩) (i := i) h4).2 fun k hk => ?_⟩
    have hk' : k < 3 := hk
    rcases (by omega : k = 0 ∨ k = 1 ∨ k = 2) with rfl | rfl | rfl
    · exact h1
    · exact h2
    · exact h3
theorem hold_blk (s : ByteArray) (i : Nat) : (∃ l, l ∈ BLK ∧ hold s l i) ↔ blk s i := by
  constructor
  · rintro ⟨l, hl, hh⟩
    simp only [BLK, List.mem_cons, List.not_mem_nil, or_false] at hl
    rcases hl with rfl | rfl | rfl | rfl | rfl | rfl | rfl | rfl | rfl | rfl | rfl | rfl | rfl | rfl | rfl | rfl | rfl | rfl | rfl
    · have h := (hold_two (by decide)).1 hh; exact .inl ⟨h.1, .inl h.2⟩
    · have h := (hold_two (by decide)).1 hh; exact .inl ⟨h.1, .inr h.2⟩
    · have h := (hold_three (by decide)).1 hh; exact .inr (.inl ⟨h.1, h.2.1, h.2.2⟩)
    · have h := (hold_three (by decide)).1 hh; exact .inr (.inr (.inl ⟨h.1, h.2.1, .inl ⟨show _ ≤ _ by rw [h.2.2]; decide, show _ ≤ _ by rw [h.2.2]; decide⟩⟩))
    · have h := (hold_three (by decide)).1 hh; exact .inr (.inr (.inl ⟨h.1, h.2.1, .inl ⟨show _ ≤ _ by rw [h.2.2]; decide, show _ ≤ _ by rw [h.2.2]; decide⟩⟩))
    · have h := (hold_three (by decide)).1 hh; exact .inr (.inr (.inl ⟨h.1, h.2.1, .inl ⟨show _ ≤ _ by rw [h.2.2]; decide, show _ ≤ _ by rw [h.2.2]; decide⟩⟩))
    · have h := (hold_three (by decide)).1 hh; exact .inr (.inr (.inl ⟨h.1, h.2.1, .inl ⟨show _ ≤ _ by rw [h.2.2]; decide, show _ ≤ _ by rw [h.2.2]; decide⟩⟩))
    · have h := (hold_three (by decide)).1 hh; exact .inr (.inr (.inl ⟨h.1, h.2.1, .inl ⟨show _ ≤ _ by rw [h.2.2]; decide, show _ ≤ _ by rw [h.2.2]; decide⟩⟩))
    · have h := (hold_three (by decide)).1 hh; exact .inr (.inr (.inl ⟨h.1, h.2.1, .inl ⟨show _ ≤ _ by rw [h.2.2]; decide, show _ ≤ _ by rw [h.2.2]; decide⟩⟩))
    · have h := (hold_three (by decide)).1 hh; exact .inr (.inr (.inl ⟨h.1, h.2.1, .inl ⟨show _ ≤ _ by rw [h.2.2]; decide, show _ ≤ _ by rw [h.2.2]; decide⟩⟩))
    · have h := (hold_three (by decide)).1 hh; exact .inr (.inr (.inl ⟨h.1, h.2.1, .inl ⟨show _ ≤ _ by rw [h.2.2]; decide, show _ ≤ _ by rw [h.2.2]; decide⟩⟩))
    · have h := (hold_three (by decide)).1 hh; exact .inr (.inr (.inl ⟨h.1, h.2.1, .inl ⟨show _ ≤ _ by rw [h.2.2]; decide, show _ ≤ _ by rw [h.2.2]; decide⟩⟩))
    · have h := (hold_three (by decide)).1 hh; exact .inr (.inr (.inl ⟨h.1, h.2.1, .inl ⟨show _ ≤ _ by rw [h.2.2]; decide, show _ ≤ _ by rw [h.2.2]; decide⟩⟩))
    · have h := (hold_three (by decide)).1 hh; exact .inr (.inr (.inl ⟨h.1, h.2.1, .inl ⟨show _ ≤ _ by rw [h.2.2]; decide, show _ ≤ _ by rw [h.2.2]; decide⟩⟩))
    · have h := (hold_three (by decide)).1 hh; exact .inr (.inr (.inl ⟨h.1, h.2.1, .inr (.inl h.2.2)⟩))
    · have h := (hold_three (by decide)).1 hh; exact .inr (.inr (.inl ⟨h.1, h.2.1, .inr (.inr (.inl h.2.2))⟩))
    · have h := (hold_three (by decide)).1 hh; exact .inr (.inr (.inl ⟨h.1, h.2.1, .inr (.inr (.inr h.2.2))⟩))
    · have h := (hold_three (by decide)).1 hh; exact .inr (.inr (.inr (.inl ⟨h.1, h.2.1, h.2.2⟩)))
    · have h := (hold_three (by decide)).1 hh; exact .inr (.inr (.inr (.inr (⟨h.1, h.2.1, h.2.2⟩))))
  · intro h
    rcases h with h | h | h | h | h
    · rcases h.2 with h2 | h2
      · exact ⟨[194, 133], by decide, (hold_two (by decide)).2 ⟨h.1, h2⟩⟩
      · exact ⟨[194, 160], by decide, (hold_two (by decide)).2 ⟨h.1, h2⟩⟩
    · exact ⟨[225, 154, 128], by decide, (hold_three (by decide)).2 h⟩
    · rcases h.2.2 with h2 | h2 | h2 | h2
      · obtain ⟨k, hk⟩ : ∃ k, gb s (i + 2) = 128 + k := ⟨gb s (i + 2) - 128, by omega⟩
        rcases (by omega : k = 0 ∨ k = 1 ∨ k = 2 ∨ k = 3 ∨ k = 4 ∨ k = 5 ∨ k = 6 ∨ k = 7 ∨ k = 8 ∨ k = 9 ∨ k = 10) with rfl | rfl | rfl | rfl | rfl | rfl | rfl | rfl | rfl | rfl | rfl
        · exact ⟨[226, 128, 128], by decide, (hold_three (by decide)).2 ⟨h.1, h.2.1, hk⟩⟩
        · exact ⟨[226, 128, 129], by decide, (hold_three (by decide)).2 ⟨h.1, h.2.1, hk⟩⟩
        · exact ⟨[226, 128, 130], by decide, (hold_three (by decide)).2 ⟨h.1, h.2.1, hk⟩⟩
        · exact ⟨[226, 128, 131], by decide, (hold_three (by decide)).2 ⟨h.1, h.2.1, hk⟩⟩
        · exact ⟨[226, 128, 132], by decide, (hold_three (by decide)).2 ⟨h.1, h.2.1, hk⟩⟩
        · exact ⟨[226, 128, 133], by decide, (hold_three (by decide)).2 ⟨h.1, h.2.1, hk⟩⟩
        · exact ⟨[226, 128, 134], by decide, (hold_three (by decide)).2 ⟨h.1, h.2.1, hk⟩⟩
        · exact ⟨[226, 128, 135], by decide, (hold_three (by decide)).2 ⟨h.1, h.2.1, hk⟩⟩
        · exact ⟨[226, 128, 136], by decide, (hold_three (by decide)).2 ⟨h.1, h.2.1, hk⟩⟩
        · exact ⟨[226, 128, 137], by decide, (hold_three (by decide)).2 ⟨h.1, h.2.1, hk⟩⟩
        · exact ⟨[226, 128, 138], by decide, (hold_three (by decide)).2 ⟨h.1, h.2.1, hk⟩⟩
      · exact ⟨[226, 128, 168], by decide, (hold_three (by decide)).2 ⟨h.1, h.2.1, h2⟩⟩
      · exact ⟨[226, 128, 169], by decide, (hold_three (by decide)).2 ⟨h.1, h.2.1, h2⟩⟩
      · exact ⟨[226, 128, 175], by decide, (hold_three (by decide)).2 ⟨h.1, h.2.1, h2⟩⟩
    · exact ⟨[226, 129, 159], by decide, (hold_three (by decide)).2 h⟩
    · exact ⟨[227, 128, 128], by decide, (hold_three (by decide)).2 h⟩
/-- what both sides answer of a name -/
def nameR (s : ByteArray) : Int := if s.size = 0 ∨ 100 < s.size ∨ plainR s ≠ 0 ∨ 0 ≤ Go.Lib.indexByte s.data.toList 43 ∨ 0 ≤ Go.Lib.idxFunc Go.Lib.isSpaceR true s then 70 else 0
theorem plus_iff (s : ByteArray) : 0 ≤ Go.Lib.indexByte s.data.toList 43 ↔ ∃ i, gb s i = 43 := by
  constructor
  · intro h
    obtain ⟨o, ho⟩ := Int.eq_ofNat_of_zero_le h
    have := (Go.Lib.indexByte_some ho).1
    refine ⟨o, ?_⟩
    rw [gb_list, List.getD_eq_getElem?_getD, this]
    rfl
  · rintro ⟨i, hi⟩
    rcases Int.lt_or_le (Go.Lib.indexByte s.data.toList 43) 0 with h | h
    · have h1 := Go.Lib.indexByte_ge s.data.toList 43
      have h2 := Go.Lib.indexByte_none (l := s.data.toList) (c := 43) (by omega) i
      have h3 := gb_pos (s := s) (i := i) (by omega)
      rw [Go.Lib.size_eq] at h3
      rw [gb_list, List.getD_eq_getElem?_getD, List.getElem?_eq_getElem h3] at hi
      rw [List.getElem?_eq_getElem h3] at h2
      exact absurd (congrArg some (UInt8.toNat_inj.1 (show (s.data.toList[i]).toNat = (43 : UInt8).toNat from hi))) h2
    · exact h
theorem plain_pf {s : ByteArray} (hs : s.size ≤ 100) (hp : plainR s = 0) : pf s s.size 0 = 0 := by
  unfold plainR at hp
  rw [if_neg (by omega)] at hp
  exact hp
/-- a name that may be -/
theorem name_iff (s : ByteArray) : nameR s = 0 ↔ 0 < s.size ∧ s.size ≤ 100 ∧ plainR s = 0 ∧ ∀ i, i < s.size → ¬ (gb s i ≤ 32 ∨ gb s i = 43 ∨ gb s i = 127) ∧ ¬ blk s i := by
  unfold nameR
  constructor
  · intro h
    split at h
    · omega
    · rename_i h2
      have h3 : s.size ≤ 100 := by omega
      have h4 : plainR s = 0 := by
        exact Decidable.not_not.1 fun h => h2 (.inr (.inr (.inl h)))
      refine ⟨by omega, h3, h4, fun i hi => ?_⟩
      have h5 := (not_congr (sp_from s s.size 0 (by omega) (plain_pf h3 h4))).1 (fun h => h2 (.inr (.inr (.inr (.inr h)))))
      have h6 := (not_congr (plus_iff s)).1 (fun h => h2 (.inr (.inr (.inr (.inl h)))))
      refine ⟨?_, fun hb => h5 ⟨i, by omega, hi, .inr (.inr hb)⟩⟩
      rintro (h | h | h)
      · exact h5 ⟨i, by omega, hi, .inl h⟩
      · exact h6 ⟨i, h⟩
      · exact h5 ⟨i, by omega, hi, .inr (.inl h)⟩
  · rintro ⟨h1, h2, h3, h4⟩
    rw [if_neg]
    rintro (h | h | h | h | h)
    · omega
    · omega
    · exact h h3
    · obtain ⟨i, hi⟩ := (plus_iff s).1 h
      exact (h4 i (gb_pos (by omega))).1 (.inr (.inl hi))
    · obtain ⟨i, _, hi, h5⟩ := (sp_from s s.size 0 (by omega) (plain_pf h2 h3)).1 h
      rcases h5 with h5 | h5 | h5
      · exact (h4 i hi).1 (.inl h5)
      · exact (h4 i hi).1 (.inr (.inr h5))
      · exact (h4 i hi).2 h5
theorem name_val (s : ByteArray) : nameR s = 0 ∨ nameR s = 70 := by unfold nameR; split <;> simp
end Go.Proofs.YtaphjbcnnkoffaaGreatDoor
namespace Go.Proofs.YtaphjbcnnkoffaaGreatDoor
open Go.RowKit TextNum

/-- two ends beside one another -/
def bk (l : List UInt8) (i : Nat) : Prop := l[i]? = some 10 ∧ l[i + 1]? = some 10
theorem occ_bk (l : List UInt8) (i : Nat) : Go.Lib.occAt l [10, 10] i = true ↔ bk l i := by
  unfold Go.Lib.occAt bk
  rw [← List.getElem?_drop (i := i) (j := 1)]
  have h0 : l[i]? = (l.drop i)[0]? := by simp
  rw [h0]
  match l.drop i with
  | [] => simp [List.isPrefixOf]
  | [a] => simp [List.isPrefixOf]
  | a :: b :: r =>
    simp [List.isPrefixOf]
    constructor <;> rintro ⟨h1, h2⟩ <;> exact ⟨h1.symm, h2.symm⟩
theorem lastIndex_bk (l : List UInt8) : (Go.Lib.lastIndex l [10, 10] = -1 ∧ ∀ j, ¬ bk l j) ∨ (∃ i : Nat, i + 1 < l.length ∧ Go.Lib.lastIndex l [10, 10] = i ∧ bk l i ∧ ∀ j, i < j → ¬ bk l j) := by
  have hlt : ∀ j, bk l j → j + 1 < l.length := fun j h => (List.getElem?_eq_some_iff.1 h.2).1
  unfold Go.Lib.lastIndex
  split
  · rename_i h2
    simp at h2
    rcases Go.Lib.lastOcc_spec l [10, 10] (l.length - [10, 10].length + 1) with ⟨e, hn⟩ | ⟨i, hi, e, hc, hn⟩
    · refine .inl ⟨e, fun j hj => ?_⟩
      have := hn j (by have := hlt j hj; simp; omega)
      rw [(occ_bk l j).2 hj] at this; cases this
    · have hb := (occ_bk l i).1 hc
      refine .inr ⟨i, hlt i hb, e, hb, fun j hij hj => ?_⟩
      have := hn j hij (by have := hlt j hj; simp; omega)
      rw [(occ_bk l j).2 hj] at this; cases this
  · rename_i h2
    refine .inl ⟨rfl, fun j hj => ?_⟩
    have := hlt j hj
    simp at h2; omega

/-- what Cut answers -/
def cutV (s : ByteArray) (r : Value) : Prop :=
  (r = .tuple #[.string ⟨#[]⟩, .string ⟨#[]⟩, .bool false] ∧ (1048576 < s.size ∨ ∀ j, ¬ bk s.data.toList j)) ∨
  (∃ i, r = .tuple #[.string (s.extract 0 (i + 1)), .string (s.extract (i + 2) s.size), .bool true] ∧ s.size ≤ 1048576 ∧ i + 1 < s.size ∧ bk s.data.toList i ∧ ∀ j, i < j → ¬ bk s.data.toList j)
set_option maxRecDepth 100000 in
theorem Cut_walkB (s : ByteArray) (w : World) : Calls Tryz.prog 32 #[.string s] w fun e w' => ∃ r, e = .returned r ∧ cutV s r ∧ Up w w' := by
  go_enter Tryz.func32, Tryz.ntmps32
  go_wp2_with fail
  refine (tooLong_walk s w).mono ?_
  rintro e w' ⟨rfl, hw⟩
  obtain rfl := hw.symm
  dsimp only
  by_cases h1 : 1048576 < s.size
  · have d1 : decide (1048576 < s.size) = true := by simpa using h1
    rw [d1]
    go_wp2
    go_ret3
    exact ⟨_, rfl, .inl ⟨rfl, .inl h1⟩, Up.refl _⟩
  · have d1 : decide (1048576 < s.size) = false := by simpa using h1
    rw [d1]
    have hle : s.size ≤ 1048576 := by omega
    clear d1 h1
    go_wp2_with fail
    refine Calls.mono (Go.Proofs.Any.strings_LastIndex Tryz.lays148 s ⟨#[10, 10]⟩ (by omega) w) ?_
    rintro e w' ⟨rfl, hw⟩
    obtain rfl := hw.symm
    rw [show (⟨#[10, 10]⟩ : ByteArray).data.toList = [10, 10] from rfl]
    rcases lastIndex_bk s.data.toList with ⟨e1, hno⟩ | ⟨i, hi, e1, hb, hno⟩
    · rw [e1]
      have HN := Hid.of hno
      clear hno e1
      dsimp only
      go_wp2
      go_ret3
      exact ⟨_, rfl, .inl ⟨rfl, .inr HN.out⟩, Up.refl _⟩
    · rw [e1]
      rw [← Go.Lib.size_eq] at hi
      have HN := Hid.of (And.intro hb hno)
      clear hno e1 hb
      have b0 : ¬ (i : Int) < 0 := by omega
      obtain ⟨j, hj⟩ : ∃ j, j = i + 1 := ⟨_, rfl⟩
      obtain ⟨k, hk⟩ : ∃ k, k = i + 2 := ⟨_, rfl⟩
      have ej : IntKind.i64.wrap ((i : Int) + 1) = (j : Int) := by
        simp only [IntKind.wrap, IntKind.signed, IntKind.bits]; simp; omega
      have ek : IntKind.i64.wrap ((i : Int) + 2) = (k : Int) := by
        simp only [IntKind.wrap, IntKind.signed, IntKind.bits]; simp; omega
      have hjs : (j : Int) ≤ (s.size : Int) := by omega
      have hks : (k : Int) ≤ (s.size : Int) := by omega
      have HJ := Hid.of (And.intro hj hk)
      clear hj hk
      dsimp only
      go_wp2_with fail
      go_quiet (fail)
      go_wp2
      go_ret3
      obtain ⟨rfl, rfl⟩ := HJ.out
      exact ⟨_, rfl, .inr ⟨i, rfl, hle, hi, HN.out.1, HN.out.2⟩, (Up.refl _).drewN _⟩

end Go.Proofs.YtaphjbcnnkoffaaGreatDoor
namespace Go.Proofs.YtaphjbcnnkoffaaGreatDoor
open Go.RowKit TextNum
/-- a signature -/
structure Sg where
  name : ByteArray
  hash : Nat
  bytes : List UInt8
def MK : List UInt8 := [226, 128, 148, 32]
/-- a key's hash in bytes, and back -/
def hb4 (h : Nat) : List UInt8 := [UInt8.ofNat (h / 16777216), UInt8.ofNat (h / 65536), UInt8.ofNat (h / 256), UInt8.ofNat h]
def h4 (b : List UInt8) : Nat := (b.getD 0 0).toNat * 16777216 + (b.getD 1 0).toNat * 65536 + (b.getD 2 0).toNat * 256 + (b.getD 3 0).toNat
theorem h4_hb4 {h : Nat} (hh : h < 4294967296) (x : List UInt8) : h4 (hb4 h ++ x) = h := by
  simp only [h4, hb4, List.cons_append, List.nil_append, List.getD_cons_zero, List.getD_cons_succ, UInt8.toNat_ofNat']
  omega
theorem hb4_h4 {b : List UInt8} (hb : 4 ≤ b.length) : hb4 (h4 b) ++ b.drop 4 = b := by
  match b, hb with
  | a :: c :: d :: e :: r, _ =>
    have ha := a.toNat_lt; have hc := c.toNat_lt; have hd := d.toNat_lt; have he := e.toNat_lt
    simp only [h4, hb4, List.getD_cons_zero, List.getD_cons_succ, List.drop_succ_cons, List.drop_zero, List.cons_append, List.nil_append, List.cons.injEq, and_true]
    refine ⟨?_, ?_, ?_, ?_⟩ <;> apply UInt8.toNat_inj.1 <;> rw [UInt8.toNat_ofNat'] <;> omega
theorem h4_lt (b : List UInt8) : h4 b < 4294967296 := by
  have := (b.getD 0 0).toNat_lt; have := (b.getD 1 0).toNat_lt; have := (b.getD 2 0).toNat_lt; have := (b.getD 3 0).toNat_lt
  unfold h4
  omega
/-- a signature's line, without its end -/
def sigB (s : Sg) : List UInt8 := MK ++ s.name.data.toList ++ [32] ++ b64E (hb4 s.hash ++ s.bytes)
def fmtN (t : List UInt8) (ss : List Sg) : List UInt8 := t ++ 10 :: joinL (ss.map sigB)
def okS (s : Sg) : Prop := nameR s.name = 0 ∧ s.bytes ≠ []
def okT (t : ByteArray) : Prop := t.data.toList.getLast? = some 10 ∧ plainR t = 0
def sgLen (s : Sg) : Nat := 4 + s.name.size + 1 + (4 + s.bytes.length + 2) / 3 * 4 + 1
def sumL : List Sg → Nat
  | [] => 0
  | s :: r => sgLen s + sumL r
def nlen (t : ByteArray) (ss : List Sg) : Nat := t.size + 1 + sumL ss
theorem joinL_len (ss : List Sg) : (joinL (ss.map sigB)).length = sumL ss := by
  induction ss with
  | nil => rfl
  | cons s r ih =>
    rw [List.map_cons, joinL_cons, List.length_append, List.length_cons, ih]
    simp only [sumL, sgLen, sigB, MK, List.length_append, List.length_cons, List.length_nil, b64E_length, hb4]
    rw [← Go.Lib.size_eq]
    omega
theorem fmtN_len (t : ByteArray) (ss : List Sg) : (fmtN t.data.toList ss).length = nlen t ss := by
  unfold fmtN nlen
  rw [List.length_append, List.length_cons, joinL_len, ← Go.Lib.size_eq]
  omega
def Lng (t : ByteArray) (ss : List Sg) : Prop := 16 < ss.length ∨ 65536 < nlen t ss
def Fine (t : ByteArray) (ss : List Sg) : Prop := okT t ∧ ss ≠ [] ∧ ∀ s, s ∈ ss → okS s
/-- Format's number -/
def FRB (t : ByteArray) (ss : List Sg) (er : Int) : Prop := (er = 2 ∧ Lng t ss) ∨ (er = 74 ∧ ¬ Lng t ss ∧ ¬ Fine t ss) ∨ (er = 0 ∧ ¬ Lng t ss ∧ Fine t ss)
/-- a line read -/
def rdS (l : List UInt8) : Option Sg :=
  if Go.Lib.hasPrefix l MK = true then
    (if nameR ⟨(Go.Lib.cut (l.drop 4) [32]).1.toArray⟩ ≠ 0 ∨ (b64R (Go.Lib.cut (l.drop 4) [32]).2.1).2 ≠ 0 ∨ (b64R (Go.Lib.cut (l.drop 4) [32]).2.1).1.length ≤ 4 then none
     else some ⟨⟨(Go.Lib.cut (l.drop 4) [32]).1.toArray⟩, h4 (b64R (Go.Lib.cut (l.drop 4) [32]).2.1).1, (b64R (Go.Lib.cut (l.drop 4) [32]).2.1).1.drop 4⟩)
  else none
/-- all lines -/
def rdL (ls : List (List UInt8)) (ss : List Sg) : Prop := ls.map rdS = ss.map some
def Tl (l : List UInt8) (ss : List Sg) : Prop := lnE l = 0 ∧ linesOf l ≠ [] ∧ (linesOf l).length ≤ 16 ∧ rdL (linesOf l) ss
def Spl (m : List UInt8) (t : ByteArray) (ss : List Sg) : Prop := ∃ i, bk m i ∧ (∀ j, i < j → ¬ bk m j) ∧ t.data.toList = m.take (i + 1) ∧ okT t ∧ Tl (m.drop (i + 2)) ss
/-- Split's number -/
def SRB (m : List UInt8) (t : ByteArray) (ss : List Sg) (er : Int) : Prop := (er = 2 ∧ 65536 < m.length) ∨ (er = 74 ∧ m.length ≤ 65536 ∧ ¬ ∃ t ss, Spl m t ss) ∨ (er = 0 ∧ m.length ≤ 65536 ∧ Spl m t ss)

theorem cut_at (l : List UInt8) (c : UInt8) : (∃ a r, Go.Lib.cut l [c] = (a, r, true) ∧ l = a ++ c :: r ∧ c ∉ a) ∨ (Go.Lib.cut l [c] = (l, [], false) ∧ c ∉ l) := by
  have hi : Go.Lib.index l [c] = Go.Lib.indexByte l c := Go.Lib.index_one l c
  unfold Go.Lib.cut
  rw [hi]
  have hge := Go.Lib.indexByte_ge l c
  by_cases h : 0 ≤ Go.Lib.indexByte l c
  · left
    rw [if_pos h]
    obtain ⟨o, ho⟩ := Int.eq_ofNat_of_zero_le h
    obtain ⟨h1, h2⟩ := Go.Lib.indexByte_some ho
    obtain ⟨hol, h1'⟩ := List.getElem?_eq_some_iff.1 h1
    refine ⟨l.take o, l.drop (o + 1), by rw [ho]; rfl, ?_, ?_⟩
    · conv => lhs; rw [← List.take_append_drop o l, List.drop_eq_getElem_cons hol, h1']
    · intro hm
      obtain ⟨k, hk, e⟩ := List.getElem_of_mem hm
      have hk' : k < o := by rw [List.length_take] at hk; omega
      refine h2 k hk' ?_
      rw [List.getElem?_eq_getElem (by omega), ← e, List.getElem_take]
  · right
    rw [if_neg h]
    have h3 := Go.Lib.indexByte_none (l := l) (c := c) (by omega)
    refine ⟨rfl, fun hm => ?_⟩
    obtain ⟨k, hk, e⟩ := List.getElem_of_mem hm
    exact h3 k (by rw [List.getElem?_eq_getElem hk, e])
theorem pre_eq {c : UInt8} : ∀ {a b r s : List UInt8}, a ++ c :: r = b ++ c :: s → c ∉ a → c ∉ b → a = b ∧ r = s
  | [], [], r, s, h, _, _ => by simpa using h
  | [], y :: b, r, s, h, _, hb => by simp at h; exact absurd (by simp [h.1]) hb
  | x :: a, [], r, s, h, ha, _ => by simp at h; exact absurd (by simp [h.1]) ha
  | x :: a, y :: b, r, s, h, ha, hb => by
    simp only [List.cons_append, List.cons.injEq] at h
    obtain ⟨e1, e2⟩ := pre_eq h.2 (fun e => ha (by simp [e])) (fun e => hb (by simp [e]))
    exact ⟨by rw [h.1, e1], e2⟩
theorem cut_hit {a r : List UInt8} {c : UInt8} (h : c ∉ a) : Go.Lib.cut (a ++ c :: r) [c] = (a, r, true) := by
  rcases cut_at (a ++ c :: r) c with ⟨a', r', e, e2, h2⟩ | ⟨_, h2⟩
  · obtain ⟨rfl, rfl⟩ := pre_eq e2 h h2
    exact e
  · exact absurd (by simp) h2
theorem name_byte {o : ByteArray} (h : nameR o = 0) {c : UInt8} (hc : c.toNat ≤ 32) : c ∉ o.data.toList := by
  intro hm
  obtain ⟨k, hk, e⟩ := List.getElem_of_mem hm
  have hk' : k < o.size := by rw [Go.Lib.size_eq]; exact hk
  have := (((name_iff o).1 h).2.2.2 k hk').1
  refine this (.inl ?_)
  rw [gb_list, List.getD_eq_getElem?_getD, List.getElem?_eq_getElem hk, e]
  exact hc
theorem lt_no10' (i : Nat) : lt i ≠ 10 := by
  unfold lt
  rcases Nat.lt_or_ge i 64 with h | h
  · have : ∀ k : Fin 64, TextNum.LT.getD k.1 0 ≠ 10 := by decide
    exact this ⟨i, h⟩
  · rw [List.getD_eq_getElem?_getD, List.getElem?_eq_none (by simpa [TextNum.LT] using h)]
    decide
theorem g_no10' : ∀ (x : List UInt8), (10 : UInt8) ∉ b64E x
  | [] => by simp [b64E]
  | [x] => by simp [b64E, g1, Ne.symm (lt_no10' _)]
  | [x, y] => by simp [b64E, g2, Ne.symm (lt_no10' _)]
  | x :: y :: z :: r => by
    have := g_no10' r
    simp [b64E, g3, Ne.symm (lt_no10' _), this]
theorem sigB_no10 {s : Sg} (h : okS s) : (10 : UInt8) ∉ sigB s := by
  have h1 := name_byte h.1 (c := 10) (by decide)
  have h2 := g_no10' (hb4 s.hash ++ s.bytes)
  intro hm
  simp only [sigB, MK, List.mem_append, List.mem_cons, List.not_mem_nil, or_false] at hm
  rcases hm with ((hm | hm) | hm) | hm
  · revert hm; decide
  · exact h1 hm
  · revert hm; decide
  · exact h2 hm
theorem b64R_back (b : List UInt8) (h : (b64E b).length ≤ 1048576) : b64R (b64E b) = (b, 0) := b64R_some (by omega) (b64_back b)
theorem mk_pre (r : List UInt8) : Go.Lib.hasPrefix (MK ++ r) MK = true := by simp [Go.Lib.hasPrefix, MK, List.isPrefixOf]
theorem ba_eta (o : ByteArray) : (⟨o.data.toList.toArray⟩ : ByteArray) = o := by cases o; simp
/-- what is written is read -/
theorem rdS_sigB {s : Sg} (h : okS s) (hh : s.hash < 4294967296) (hl : sgLen s ≤ 65536) : rdS (sigB s) = some s := by
  have e : sigB s = MK ++ (s.name.data.toList ++ 32 :: b64E (hb4 s.hash ++ s.bytes)) := by simp [sigB]
  have hlen : (b64E (hb4 s.hash ++ s.bytes)).length ≤ 1048576 := by
    rw [b64E_length, List.length_append]
    simp only [hb4, List.length_cons, List.length_nil]
    unfold sgLen at hl
    omega
  unfold rdS
  rw [e, if_pos (mk_pre _), show (MK ++ (s.name.data.toList ++ 32 :: b64E (hb4 s.hash ++ s.bytes))).drop 4 = s.name.data.toList ++ 32 :: b64E (hb4 s.hash ++ s.bytes) from rfl,
    cut_hit (name_byte h.1 (by decide))]
  simp only
  rw [b64R_back _ hlen, ba_eta, if_neg]
  · rw [h4_hb4 hh]
    rfl
  · have hb := List.length_pos_iff.2 h.2
    rintro (hx | hx | hx)
    · exact hx h.1
    · exact hx rfl
    · simp only [hb4, List.length_append, List.length_cons, List.length_nil] at hx
      omega
theorem rdS_some {l : List UInt8} {s : Sg} (h : rdS l = some s) : okS s ∧ sigB s = l ∧ s.hash < 4294967296 := by
  unfold rdS at h
  split at h
  · rename_i hp
    split at h
    · cases h
    · rename_i hc
      simp only [not_or, Nat.not_le] at hc
      obtain ⟨c1, c2, c3⟩ := hc
      have c1 := Classical.not_not.1 c1
      have c2 := Classical.not_not.1 c2
      injection h with h
      subst h
      have hl : l = MK ++ l.drop 4 := by
        have := (List.isPrefixOf_iff_prefix).1 hp
        obtain ⟨r, hr⟩ := this
        rw [← hr]; rfl
      generalize l.drop 4 = r at *
      subst hl
      rcases cut_at r 32 with ⟨a, q, e, rfl, _⟩ | ⟨e, _⟩
      · rw [e] at c1 c2 c3 ⊢
        simp only at c1 c2 c3 ⊢
        have hq : b64E (b64R q).1 = q := by
          unfold b64R at c2 c3 ⊢
          split at c2
          · cases c2
          · rename_i hq0
            rw [if_neg hq0] at c3 ⊢
            cases hd : b64D q with
            | none => rw [hd] at c2; cases c2
            | some x => rw [hd] at c2 c3; exact b64_once q x hd
        refine ⟨⟨c1, fun e => ?_⟩, ?_, h4_lt _⟩
        · have := congrArg List.length e
          simp only [List.length_drop, List.length_nil] at this
          omega
        · simp only [sigB]
          rw [hb4_h4 (by omega), hq]
          simp
      · rw [e] at c3
        exact absurd (show 4 < (b64R []).1.length from c3) (by decide)
  · cases h
theorem rdL_sigB {ss : List Sg} (h : ∀ s, s ∈ ss → okS s ∧ s.hash < 4294967296 ∧ sgLen s ≤ 65536) : rdL (ss.map sigB) ss := by
  unfold rdL
  rw [List.map_map]
  apply List.map_congr_left
  intro s hs
  exact rdS_sigB (h s hs).1 (h s hs).2.1 (h s hs).2.2
theorem rdL_lines : ∀ {ls : List (List UInt8)} {ss : List Sg}, rdL ls ss → ls = ss.map sigB ∧ ∀ s, s ∈ ss → okS s ∧ s.hash < 4294967296
  | [], [], _ => ⟨rfl, by simp⟩
  | [], s :: ss, h => by simp [rdL] at h
  | l :: ls, [], h => by simp [rdL] at h
  | l :: ls, s :: ss, h => by
    simp only [rdL, List.map_cons, List.cons.injEq] at h
    obtain ⟨e1, e2⟩ := rdL_lines (ls := ls) (ss := ss) h.2
    obtain ⟨a1, a2, a3⟩ := rdS_some h.1
    refine ⟨by rw [List.map_cons, ← e1, a2], fun x hx => ?_⟩
    rcases List.mem_cons.1 hx with rfl | hx
    · exact ⟨a1, a3⟩
    · exact e2 x hx
theorem sgLen_le {s : Sg} {ss : List Sg} (h : s ∈ ss) : sgLen s ≤ sumL ss := by
  induction ss with
  | nil => cases h
  | cons x r ih =>
    rcases List.mem_cons.1 h with rfl | h
    · simp [sumL]
    · have := ih h; simp only [sumL]; omega
theorem joinL_last : ∀ (xs : List (List UInt8)), xs ≠ [] → (joinL xs).getLast? = some 10
  | [], h => absurd rfl h
  | [x], _ => by simp [joinL]
  | x :: y :: r, _ => by
    rw [joinL_cons]
    have := joinL_last (y :: r) (by simp)
    rw [show x ++ 10 :: joinL (y :: r) = (x ++ [10]) ++ joinL (y :: r) by simp, List.getLast?_append, this]
    rfl
/-- lines that are not empty have no blank line among them -/
theorem join_nobk : ∀ (xs : List (List UInt8)), (∀ x, x ∈ xs → (10 : UInt8) ∉ x ∧ x ≠ []) → ∀ j, ¬ bk (10 :: joinL xs) j
  | [], _, j => by
    rintro ⟨h1, h2⟩
    cases j with
    | zero => simp [joinL] at h2
    | succ j => simp [joinL] at h2
  | x :: r, h, j => by
    rintro ⟨h1, h2⟩
    have hx := h x (by simp)
    rw [joinL_cons] at h1 h2
    have hxl := List.length_pos_iff.2 hx.2
    rcases Nat.lt_or_ge j (x.length + 1) with hj | hj
    · cases j with
      | zero =>
        rw [List.getElem?_cons_succ, List.getElem?_append_left (by omega)] at h2
        exact hx.1 (List.mem_of_getElem? h2)
      | succ j =>
        rw [List.getElem?_cons_succ, List.getElem?_append_left (by omega)] at h1
        exact hx.1 (List.mem_of_getElem? h1)
    · obtain ⟨k, rfl⟩ : ∃ k, j = x.length + 1 + k := ⟨j - (x.length + 1), by omega⟩
      refine join_nobk r (fun y hy => h y (by simp [hy])) k ⟨?_, ?_⟩
      · rw [show x.length + 1 + k = (x.length + k) + 1 by omega, List.getElem?_cons_succ, List.getElem?_append_right (by omega)] at h1
        rwa [show x.length + k - x.length = k by omega] at h1
      · rw [show x.length + 1 + k + 1 = (x.length + (k + 1)) + 1 by omega, List.getElem?_cons_succ, List.getElem?_append_right (by omega)] at h2
        rwa [show x.length + (k + 1) - x.length = k + 1 by omega] at h2
theorem sigB_ne (s : Sg) : sigB s ≠ [] := by simp [sigB, MK]
/-- what Format gives Split takes apart -/
theorem split_fmt {t : ByteArray} {ss : List Sg} (hL : ¬ Lng t ss) (hF : Fine t ss) (hh : ∀ s, s ∈ ss → s.hash < 4294967296) : Spl (fmtN t.data.toList ss) t ss ∧ (fmtN t.data.toList ss).length ≤ 65536 := by
  have hlen := fmtN_len t ss
  unfold Lng at hL
  simp only [not_or, Nat.not_lt] at hL
  refine ⟨?_, by omega⟩
  obtain ⟨⟨ht, hp⟩, hne, hok⟩ := hF
  have hno : ∀ x, x ∈ ss.map sigB → (10 : UInt8) ∉ x ∧ x ≠ [] := fun x hx => by
    obtain ⟨s, hs, rfl⟩ := List.mem_map.1 hx
    exact ⟨sigB_no10 (hok s hs), sigB_ne s⟩
  have htl : t.data.toList ≠ [] := by rintro e; rw [e] at ht; cases ht
  have htp := List.length_pos_iff.2 htl
  have hsum : sumL ss ≤ 65536 := by unfold nlen at hL; omega
  unfold fmtN
  generalize hT : t.data.toList = T at *
  have hlast : T[T.length - 1]? = some 10 := by rw [← List.getLast?_eq_getElem?]; exact ht
  refine ⟨T.length - 1, ⟨?_, ?_⟩, ?_, ?_, ⟨by rw [hT]; exact ht, hp⟩, ?_⟩
  · rw [List.getElem?_append_left (by omega)]; exact hlast
  · rw [show T.length - 1 + 1 = T.length by omega, List.getElem?_append_right (Nat.le_refl _)]; simp
  · intro j hj hb
    refine join_nobk (ss.map sigB) hno (j - T.length) ?_
    obtain ⟨h1, h2⟩ := hb
    rw [List.getElem?_append_right (by omega)] at h1 h2
    exact ⟨h1, by rw [show j - T.length + 1 = j + 1 - T.length by omega]; exact h2⟩
  · rw [show T.length - 1 + 1 = T.length by omega, List.take_left' rfl, hT]
  · have hd : (T ++ 10 :: joinL (ss.map sigB)).drop (T.length - 1 + 2) = joinL (ss.map sigB) := by
      rw [show T.length - 1 + 2 = T.length + 1 by omega, ← List.drop_drop, List.drop_left' rfl]; rfl
    rw [hd]
    have hlj : linesOf (joinL (ss.map sigB)) = ss.map sigB := lines_join _ (fun x hx => (hno x hx).1)
    have hml : ss.map sigB ≠ [] := by simpa using hne
    refine ⟨?_, by rw [hlj]; exact hml, by rw [hlj, List.length_map]; exact hL.1, by rw [hlj]; exact rdL_sigB (fun s hs => ⟨hok s hs, hh s hs, by have := sgLen_le hs; omega⟩)⟩
    unfold lnE
    rw [if_neg (by rw [joinL_len]; omega), if_pos (.inr (joinL_last _ hml))]
theorem spl_fmt {m : List UInt8} {t : ByteArray} {ss : List Sg} (h : Spl m t ss) (hm : m.length ≤ 65536) : ¬ Lng t ss ∧ Fine t ss ∧ fmtN t.data.toList ss = m ∧ ∀ s, s ∈ ss → s.hash < 4294967296 := by
  obtain ⟨i, hb, _, ht, hok, h0, hne, h16, hr⟩ := h
  obtain ⟨e1, e2⟩ := rdL_lines hr
  have hj : joinL (linesOf (m.drop (i + 2))) = m.drop (i + 2) := by
    refine join_lines _ ?_
    unfold lnE at h0
    split at h0
    · cases h0
    · split at h0
      · assumption
      · cases h0
  have hm2 : fmtN t.data.toList ss = m := by
    unfold fmtN
    rw [← e1, hj, ht]
    obtain ⟨hl, e⟩ := List.getElem?_eq_some_iff.1 hb.2
    conv => rhs; rw [← List.take_append_drop (i + 1) m, List.drop_eq_getElem_cons hl, e]
  refine ⟨?_, ⟨hok, ?_, fun s hs => (e2 s hs).1⟩, hm2, fun s hs => (e2 s hs).2⟩
  · have := fmtN_len t ss
    rw [hm2] at this
    have h2 : ss.length = (linesOf (m.drop (i + 2))).length := by rw [e1, List.length_map]
    unfold Lng
    omega
  · rintro rfl
    rw [e1] at hne
    exact hne rfl
theorem ba_list7 {s t : ByteArray} (h : s.data.toList = t.data.toList) : s = t := by
  obtain ⟨⟨x⟩⟩ := s
  obtain ⟨⟨y⟩⟩ := t
  simp at h
  rw [h]
theorem spl_one {m : List UInt8} {t t' : ByteArray} {ss ss' : List Sg} (h : Spl m t ss) (h' : Spl m t' ss') : t = t' ∧ ss = ss' := by
  obtain ⟨i, hb, hn, ht, _, _, _, _, hr⟩ := h
  obtain ⟨i', hb', hn', ht', _, _, _, _, hr'⟩ := h'
  obtain rfl : i = i' := by
    rcases Nat.lt_trichotomy i i' with h | h | h
    · exact absurd hb' (hn _ h)
    · exact h
    · exact absurd hb (hn' _ h)
  refine ⟨ba_list7 (ht.trans ht'.symm), ?_⟩
  have := hr.symm.trans hr'
  exact (List.map_inj_right (fun x y => Option.some.inj)).1 this
end Go.Proofs.YtaphjbcnnkoffaaGreatDoor
/-! plain lemmas on numerals; no model in it -/
namespace TextNum
open Go.Lib (decDigits itoa parseIntB parseUintB parseUintM NumEnd)

def isD (c : UInt8) : Bool := decide (48 ≤ c.toNat) && decide (c.toNat ≤ 57)
/-- one or more digits, and no zero ahead of another one -/
def isN (l : List UInt8) : Bool := l.all isD && (decide (l.length = 1) || (decide (1 < l.length) && decide (l.head? ≠ some 48)))
def nvf (a : Nat) (l : List UInt8) : Nat := l.foldl (fun a c => 10 * a + (c.toNat - 48)) a
def nv (l : List UInt8) : Nat := nvf 0 l
theorem nvf_cons (a : Nat) (c : UInt8) (r : List UInt8) : nvf a (c :: r) = nvf (10 * a + (c.toNat - 48)) r := by unfold nvf; rw [List.foldl_cons]
theorem nvf_le (a : Nat) (l : List UInt8) : a ≤ nvf a l := by
  induction l generalizing a with
  | nil => exact Nat.le_refl _
  | cons c r ih => rw [nvf_cons]; have := ih (10 * a + (c.toNat - 48)); omega
theorem nv_snoc (l : List UInt8) (c : UInt8) : nv (l ++ [c]) = 10 * nv l + (c.toNat - 48) := by simp [nv, nvf]
theorem isD_iff {c : UInt8} : isD c = true ↔ 48 ≤ c.toNat ∧ c.toNat ≤ 57 := by simp [isD]

theorem parseM : ∀ (l : List UInt8) (acc : Nat), l.all isD = true → acc ≤ 18446744073709551615 →
    parseUintM 18446744073709551615 acc l = if nvf acc l ≤ 18446744073709551615 then .ok (nvf acc l) else .range
  | [], acc, _, h => by simp only [parseUintM]; rw [if_pos (show nvf acc [] ≤ _ from h)]; rfl
  | c :: r, acc, hd, h => by
    simp only [List.all_cons, Bool.and_eq_true] at hd
    have hc := isD_iff.1 hd.1
    simp only [parseUintM]
    rw [if_pos hc, nvf_cons]
    have hm := nvf_le (10 * acc + (c.toNat - 48)) r
    have e : acc * 10 + (c.toNat - 48) = 10 * acc + (c.toNat - 48) := by omega
    rw [e]
    by_cases h1 : 1844674407370955162 ≤ acc
    · rw [if_pos h1, if_neg (by omega)]
    · rw [if_neg h1]
      by_cases h2 : 18446744073709551615 < 10 * acc + (c.toNat - 48)
      · rw [if_pos h2, if_neg (by omega)]
      · rw [if_neg h2]
        exact parseM r _ hd.2 (by omega)

theorem isN_cons {l : List UInt8} (h : isN l = true) : ∃ c r, l = c :: r ∧ isD c = true := by
  match l with
  | [] => simp [isN] at h
  | c :: r => exact ⟨c, r, rfl, by simp [isN] at h; exact h.1.1⟩
theorem parse_isN {l : List UInt8} (h : isN l = true) : parseIntB 64 l = if nv l < 9223372036854775808 then .ok (nv l : Int) else .range := by
  obtain ⟨c, r, rfl, hc⟩ := isN_cons h
  have hd : (c :: r).all isD = true := by simp only [isN, Bool.and_eq_true] at h; exact h.1
  have hc' := isD_iff.1 hc
  simp only [parseIntB]
  rw [if_neg (by omega)]
  unfold parseUintB
  rw [if_neg (by simp), show (2 ^ 64 - 1 : Nat) = 18446744073709551615 by decide, parseM _ 0 hd (by omega)]
  rw [show nvf 0 (c :: r) = nv (c :: r) from rfl]
  have h45 : ¬ c.toNat = 45 := by omega
  by_cases h1 : nv (c :: r) ≤ 18446744073709551615
  · rw [if_pos h1]
    simp only [h45, not_false_eq_true, true_and, false_and, if_false, Nat.reduceSub, Nat.reducePow]
    by_cases h2 : nv (c :: r) < 9223372036854775808
    · rw [if_pos h2, if_neg (by omega)]
    · rw [if_neg h2, if_pos (by omega)]
  · rw [if_neg h1, if_neg (by omega)]

/-- a numeral is its number's -/
theorem dec_nv : ∀ (l : List UInt8), isN l = true → decDigits (nv l) = l := by
  have key : ∀ n (l : List UInt8), l.length = n → isN l = true → decDigits (nv l) = l := by
    intro n
    induction n with
    | zero => intro l hl h; obtain ⟨c, r, rfl, _⟩ := isN_cons h; simp at hl
    | succ n ih =>
      intro l hl h
      obtain ⟨c, r, e, hc⟩ := isN_cons h
      rcases List.eq_nil_or_concat l with e0 | ⟨t, d, e1⟩
      · rw [e0] at e; cases e
      · rw [List.concat_eq_append] at e1
        subst e1
        have hd : t.all isD = true ∧ isD d = true := by simp only [isN, Bool.and_eq_true, List.all_append, List.all_cons, List.all_nil] at h; exact ⟨h.1.1, h.1.2.1⟩
        have hdd := isD_iff.1 hd.2
        rw [nv_snoc]
        have hl' : t.length = n := by simp at hl; exact hl
        cases n with
        | zero =>
          obtain rfl := List.eq_nil_of_length_eq_zero hl'
          rw [Go.Lib.decDigits_one (by simp [nv, nvf]; omega)]
          simp only [nv, nvf, List.foldl_nil, List.nil_append]
          rw [show 48 + (10 * 0 + (d.toNat - 48)) = d.toNat by omega, UInt8.ofNat_toNat]
        | succ m =>
          obtain ⟨c', r', rfl⟩ : ∃ c' r', t = c' :: r' := by
            cases t with
            | nil => simp at hl'
            | cons a b => exact ⟨a, b, rfl⟩
          have hh : c' ≠ 48 := by
            simp only [isN, Bool.and_eq_true, Bool.or_eq_true, decide_eq_true_eq] at h
            rcases h.2 with h2 | h2
            · simp at h2
            · simpa using h2.2
          have hN : isN (c' :: r') = true := by
            simp only [isN, Bool.and_eq_true, Bool.or_eq_true, decide_eq_true_eq]
            refine ⟨hd.1, ?_⟩
            by_cases hr : r' = []
            · subst hr; exact .inl rfl
            · exact .inr ⟨by have := List.length_pos_iff.2 hr; simp; omega, by simpa using hh⟩
          have hpos : 1 ≤ nv (c' :: r') := by
            have h1 := isD_iff.1 (by simp only [List.all_cons, Bool.and_eq_true] at hd; exact hd.1.1 : isD c' = true)
            have h2 := nvf_le (10 * 0 + (c'.toNat - 48)) r'
            have h3 : c'.toNat ≠ 48 := fun e => hh (by apply UInt8.toNat_inj.1; simpa using e)
            show 1 ≤ nvf 0 (c' :: r')
            rw [nvf_cons]
            omega
          have h3 := ih _ hl' hN
          rw [decDigits, dif_neg (by omega), show (10 * nv (c' :: r') + (d.toNat - 48)) / 10 = nv (c' :: r') by omega, h3,
            show (10 * nv (c' :: r') + (d.toNat - 48)) % 10 = d.toNat - 48 by omega, show 48 + (d.toNat - 48) = d.toNat by omega, UInt8.ofNat_toNat]
  exact fun l h => key _ l rfl h

theorem dig_toNat {n : Nat} (h : n < 10) : (UInt8.ofNat (48 + n)).toNat = 48 + n := by simp [UInt8.toNat_ofNat']; omega
theorem nv_dec (u : Nat) : nv (decDigits u) = u := by
  induction u using Nat.strongRecOn with
  | _ u ih =>
    by_cases h : u < 10
    · rw [Go.Lib.decDigits_one h]
      simp only [nv, nvf, List.foldl_cons, List.foldl_nil]
      rw [dig_toNat h]; omega
    · rw [decDigits, dif_neg h, nv_snoc, ih _ (by omega), dig_toNat (by omega)]; omega
theorem dec_head (u : Nat) : 1 ≤ u → (decDigits u).head? ≠ some 48 := by
  induction u using Nat.strongRecOn with
  | _ u ih =>
    intro hu
    by_cases h : u < 10
    · rw [Go.Lib.decDigits_one h]
      intro e
      have := congrArg UInt8.toNat (Option.some.inj e)
      rw [dig_toNat h] at this
      simp at this; omega
    · rw [decDigits, dif_neg h, List.head?_append]
      have := ih (u / 10) (by omega) (by omega)
      cases hh : (decDigits (u / 10)).head? with
      | none => rw [List.head?_eq_none_iff] at hh; have h0 := Go.Lib.decDigits_length (u / 10); rw [hh] at h0; have := Go.Lib.nDigits_pos (u / 10); simp at h0; omega
      | some c => rw [hh] at this; simpa using this
theorem dec_all (u : Nat) : (decDigits u).all isD = true := by
  induction u using Nat.strongRecOn with
  | _ u ih =>
    by_cases h : u < 10
    · rw [Go.Lib.decDigits_one h]
      simp only [List.all_cons, List.all_nil, Bool.and_true]
      rw [isD_iff, dig_toNat h]; omega
    · rw [decDigits, dif_neg h, List.all_append, ih _ (by omega)]
      simp only [List.all_cons, List.all_nil, Bool.and_true, Bool.true_and]
      rw [isD_iff, dig_toNat (by omega)]; omega
theorem isN_dec (u : Nat) : isN (decDigits u) = true := by
  simp only [isN, Bool.and_eq_true, Bool.or_eq_true, decide_eq_true_eq]
  refine ⟨dec_all u, ?_⟩
  have hl := Go.Lib.decDigits_length u
  by_cases h : u < 10
  · left; rw [Go.Lib.decDigits_one h]; rfl
  · right
    refine ⟨by rw [hl, Go.Lib.nDigits_big h]; have := Go.Lib.nDigits_pos (u / 10); omega, dec_head u (by omega)⟩
theorem isN_neg (n : Int) (h : n < 0) : isN (itoa n) = false := by
  unfold itoa
  rw [if_pos h]
  simp [isN, isD]
theorem itoa_nat (n : Nat) : itoa (n : Int) = decDigits n := by
  unfold itoa
  rw [if_neg (by omega)]; simp
theorem itoa_len (n : Int) (h0 : -9223372036854775808 ≤ n) (h1 : n ≤ 9223372036854775807) : (itoa n).length ≤ 20 ∧ 1 ≤ (itoa n).length := by
  have key : ∀ u : Nat, u ≤ 9223372036854775808 → (decDigits u).length ≤ 19 ∧ 1 ≤ (decDigits u).length := by
    intro u hu
    rw [Go.Lib.decDigits_length]
    refine ⟨?_, Go.Lib.nDigits_pos u⟩
    rcases Nat.lt_or_ge 19 (Go.Lib.nDigits u) with h | h
    · exfalso
      have : ∀ k u, k < Go.Lib.nDigits u → 10 ^ k ≤ u ∨ k = 0 := by
        intro k
        induction k with
        | zero => intro u _; exact .inr rfl
        | succ k ih =>
          intro u hk
          left
          by_cases h : u < 10
          · rw [Go.Lib.nDigits_small h] at hk; omega
          · rw [Go.Lib.nDigits_big h] at hk
            rcases ih (u / 10) (by omega) with h2 | rfl
            · rw [Nat.pow_succ]; omega
            · simp; omega
      rcases this 19 u h with h2 | h2
      · simp only [Nat.reducePow] at h2; omega
      · omega
    · exact h
  unfold itoa
  split
  · have := key n.natAbs (by omega); simp; omega
  · have := key n.toNat (by omega); omega

/-- what ParseNumber answers: the number and the error -/
def prs (l : List UInt8) (max : Int) : Int × Int :=
  if 1048576 < l.length then (0, 2) else if isN l = true then (if (nv l : Int) ≤ max ∧ nv l < 9223372036854775808 then ((nv l : Int), 0) else (0, 63)) else (0, 62)
theorem num_once (l : List UInt8) (h : (prs l 9223372036854775807).2 = 0) : itoa (prs l 9223372036854775807).1 = l := by
  unfold prs at h ⊢
  split at h
  · cases h
  · rw [if_neg (by assumption)]
    split at h
    · rename_i hn
      rw [if_pos hn]
      split at h
      · rename_i h2
        rw [if_pos h2]
        simp only
        rw [itoa_nat, dec_nv l hn]
      · cases h
    · cases h
end TextNum
namespace Go.Proofs.YtaphjbcnnkoffaaGreatDoor
open Go.ChangeShapes Go.WideShapes Go.ChangeAt Go.WideMaps Go.WideElems Go.RowKit TextNum

/-- a list that is read is appended to a list of one's own -/
theorem run_app_none {w : World} {v : Value} {B : Nat} {l : List UInt8} {ty : TypeId} {c : Nat} (h : Own w B v l) : (Builtin.append_ #[22, 22] ty #[v, .slice none 0 c]).run Tryz.prog w = .ok v w := by
  obtain ⟨i0, hi, hz0, hz1, hz2⟩ := info_parts Tryz.info8
  rcases h.2 with ⟨rfl, h1⟩ | ⟨g, cap, cur, rfl, _, _, hnc, _⟩
  · simp [Builtin.append_, run_underlying Tryz.underlying22, sizeOf, typeInfo, hi, Builtin.lenOf, Builtin.firstCells]
  · simp [Builtin.append_, run_underlying Tryz.underlying22, sizeOf, typeInfo, hi, Builtin.lenOf, Builtin.firstCells, hnc, storeCells]
theorem wpList_appSl {ops : Array Oper} {rest : List Oper} {o : Oper} {a : Act} {w : World} {Q : Exit → Act → World → Prop} (hgd : o.guard = none) (s x : Operand)
    (ho : o.op = .call { callee := .builtin .append, args := #[s, x], argTypes := #[22, 22] }) (B : Nat) (v vx : Value) (l m : List UInt8) (hs : a.eval s = v) (hown : Own w B v l)
    (hx : a.eval x = vx) (hm : Sl w vx m) (hn : l.length + m.length ≤ 140737488355328) (hB : B ≤ w.heap.size)
    (h : ∀ v' w', Own w' B v' (l ++ m) → Below B w w' → wpList Tryz.prog ops Q rest (a.put o.dst v') w') : wpList Tryz.prog ops Q (o :: rest) a w := by
  obtain ⟨ad, c, rfl, hc, hm⟩ := hm
  cases ad with
  | some ad =>
    refine wpList_app hgd s x ho B v l m hs hown ad c hx ?_ hn hB h
    rcases hm with rfl | ⟨b, off, e, hb, hcell⟩
    · intro j u hj; simp [cb] at hj
    · cases e
      intro j u hj
      have hjl : j < m.length := by have := (List.getElem?_eq_some_iff.1 hj).1; rwa [cb_length] at this
      rw [cb_get hjl] at hj
      rw [add_plain, hcell j hjl]; exact hj
  | none =>
    rcases hm with rfl | ⟨b, off, e, _⟩
    · refine wpList_plain hgd fun K hK => ?_
      have hr := run_app_none (ty := o.type) (c := c) hown
      unfold Oper.wp execOp
      simp only [List.length_nil] at hx
      simp only [ho, resolve, invoke, builtin, Sem.run_bind, Sem.run_pure, Result.andThen_ok, List.map_toArray, List.map_cons, List.map_nil, hs, hx, hr]
      exact hK _ _ (h v w (by rw [List.append_nil]; exact hown) (Below.refl _ _))
    · cases e

/-- a[:k], a[k:] -/
theorem sl_take {w : World} {a : Option Addr} {n c k : Nat} {l : List UInt8} (h : Sl w (.slice a n c) l) (hk : k ≤ l.length) : Sl w (.slice a k c) (l.take k) := by
  obtain ⟨a', c', e, hc, h⟩ := h
  cases e
  refine ⟨a, c, by rw [List.length_take, Nat.min_eq_left hk], by rw [List.length_take]; omega, ?_⟩
  rcases h with rfl | ⟨b, off, rfl, hb, hcell⟩
  · exact .inl (by simp)
  · exact .inr ⟨b, off, rfl, hb, fun i hi => by
      have hi' : i < l.length := by rw [List.length_take] at hi; omega
      rw [hcell i hi', List.getElem_take]⟩
theorem sliced_drop {w : World} {a : Option Addr} {n c k : Nat} {l : List UInt8} (h : Sl w (.slice a n c) l) (hk : k ≤ l.length) : Sl w (sliced a k n c 1) (l.drop k) := by
  obtain ⟨a', c', e, hc, h⟩ := h
  cases e
  unfold sliced
  refine ⟨_, _, by rw [List.length_drop], by rw [List.length_drop]; omega, ?_⟩
  rcases Nat.lt_or_ge k l.length with hlt | hge
  · rcases h with rfl | ⟨b, off, rfl, hb, hcell⟩
    · simp at hlt
    · refine .inr ⟨b, off + k, ?_, hb, fun i hi => ?_⟩
      · rw [if_neg (by omega), Option.map_some, Nat.mul_one, add_plain]
      · rw [List.length_drop] at hi
        rw [Nat.add_assoc, hcell (k + i) (by omega), List.getElem_drop]
  · exact .inl (List.drop_eq_nil_of_le hge)

theorem one_le {H : Type} (d : DataW H) : 1 ≤ Rows.uptoBulk d := by
  cases d with
  | lit l => cases l <;> simp [Rows.uptoBulk]
  | nil => simp [Rows.uptoBulk]
  | ptr d => simp [Rows.uptoBulk]
  | slice elems spare => simp [Rows.uptoBulk]
  | agg parts => simp [Rows.uptoBulk]
  | iface t d => simp [Rows.uptoBulk]
  | map entries => simp [Rows.uptoBulk]
  | held h => simp [Rows.uptoBulk]
theorem len_le {H : Type} (l : List (DataW H)) : l.length ≤ Rows.uptoBulkAll l := by
  induction l with
  | nil => simp [Rows.uptoBulkAll]
  | cons x r ih => have := one_le x; simp only [Rows.uptoBulkAll, List.length_cons]; omega
set_option maxRecDepth 100000 in
theorem cells8' : Tryz.prog.cellsOf 5 = 1 := by kernel_rfl
/-- a list of bytes as an argument -/
theorem open_bytes {H : Type} {enc : TypeId × Value → H} {W : World} {v : Value} {d : DataW H} {ps : List MemPlace} (h : DataW.Trod enc Tryz.prog W 0 (fun _ => true) true 22 v d ps) (a : Option Addr) (len cap : Nat) (hv : v = .slice a len cap) :
    ∃ l, Sl W v l ∧ l.length ≤ Rows.uptoBulk d := by
  subst hv
  obtain ⟨fuel, hf⟩ := h
  have hf' : DataW.trod enc Tryz.prog W 0 (fun _ => true) true fuel 22 [.slice a len cap] = some (d, ps) := hf
  rcases open_ints Tryz.underlying22 Tryz.underlying5 cells8' hf' with ⟨e1, _⟩ | ⟨ad, l2, c2, zs, e1, _, hlc, _, hzl, hx, hcell, hwf⟩
  · simp only [List.cons.injEq, Value.slice.injEq, and_true] at e1
    obtain ⟨rfl, rfl, rfl⟩ := e1
    exact ⟨[], ⟨none, 0, rfl, Nat.le_refl _, .inl rfl⟩, Nat.zero_le _⟩
  · simp only [List.cons.injEq, Value.slice.injEq, and_true] at e1
    obtain ⟨rfl, rfl, rfl⟩ := e1
    simp only [if_true] at hzl
    injection hx with hd _
    refine ⟨(zs.take len).map fun z => UInt8.ofNat z.toNat, ⟨some ad, cap, ?_, ?_, ?_⟩, ?_⟩
    · rw [List.length_map, List.length_take, Nat.min_eq_left (by omega)]
    · rw [List.length_map, List.length_take]; omega
    · rcases Nat.eq_zero_or_pos len with h0 | h0
      · left; subst h0; simp
      · right
        have h00 := hcell 0 (by omega)
        obtain ⟨b, off, rfl⟩ : ∃ b off, ad = ⟨b, off, none⟩ := by
          obtain ⟨b, off, sp⟩ := ad
          cases sp with
          | none => exact ⟨b, off, rfl⟩
          | some s => exfalso; simp only [World.cell?, Addr.add] at h00; split at h00 <;> simp at h00
        refine ⟨b, off, rfl, lt_of_cell (i := off + 0) (by rw [add_plain] at h00; exact h00), fun i hi => ?_⟩
        rw [List.length_map, List.length_take] at hi
        have h1 := hcell i (by omega)
        rw [add_plain] at h1
        rw [h1]
        have hi2 : i < zs.length := by omega
        have hz := hwf zs[i] (List.getElem_mem hi2)
        have hb : 0 ≤ zs[i] ∧ zs[i] ≤ 255 := by
          simpa [Lit.wf, IntKind.min, IntKind.max, IntKind.signed, IntKind.bits] using hz
        simp only [List.getElem_map, List.getElem_take, List.getD_eq_getElem?_getD, List.getElem?_eq_getElem hi2, Option.getD_some]
        congr 2
        rw [ofNat_toNat (by omega)]
        omega
    · rw [hd]
      simp only [Rows.uptoBulk, List.length_map]
      have := len_le (lits (H := H) .u8 (zs.take len))
      have e : (lits (H := H) .u8 (zs.take len)).length = (zs.take len).length := by simp [lits]
      omega
end Go.Proofs.YtaphjbcnnkoffaaGreatDoor
namespace Go.Proofs.YtaphjbcnnkoffaaGreatDoor
open Go.RowKit TextNum

theorem IsSpace_runes (w : World) (hW : Go.Lib.WhiteTab 5 w) : PredAtRunes Tryz.prog 126 #[] Go.Lib.isSpaceR w := fun W x hx hb => by
  have c := Any.unicode_IsSpace_any_d Tryz.lays199 (x : Int) W (by omega) (by omega) (WhiteTab_below hW hb)
  rw [Go.Lib.isSpaceZ_nat] at c
  exact c
theorem CF_walk (s : ByteArray) (w : World) (hW : Go.Lib.WhiteTab 5 w) : Calls Tryz.prog 125 #[.string s, .func (.func 126) #[] #[]] w fun e w' => e = .returned (.bool (decide (0 ≤ Go.Lib.idxFunc Go.Lib.isSpaceR true s))) ∧ Up w w' :=
  Any.strings_ContainsFunc_runes Tryz.laysgw17 126 #[] (enters_of Tryz.func126 (by kernel_rfl) rfl) _ s w (IsSpace_runes w hW)
theorem WhiteTab_up {g : Nat} {w w' : World} (h : Go.Lib.WhiteTab g w) (hu : Up w w') : Go.Lib.WhiteTab g w' := WhiteTab_below h hu

theorem size_zero {s : ByteArray} (h : s.size = 0) : s = ⟨#[]⟩ := by
  obtain ⟨d⟩ := s
  have : d.size = 0 := h
  rw [Array.size_eq_zero_iff] at this
  subst this; rfl
theorem empty_no {s : ByteArray} (h : ¬ s.size = 0) : s.toList.isEmpty = false := by
  rw [Go.Lib.toList_data]
  cases hh : s.data.toList with
  | nil => rw [Go.Lib.size_eq, hh] at h; simp at h
  | cons a b => rfl
theorem name_bad {s : ByteArray} (h : s.size = 0 ∨ 100 < s.size ∨ plainR s ≠ 0 ∨ 0 ≤ Go.Lib.indexByte s.data.toList 43 ∨ 0 ≤ Go.Lib.idxFunc Go.Lib.isSpaceR true s) : nameR s = 70 := if_pos h

set_option maxRecDepth 100000 in
theorem CheckName_walk (s : ByteArray) (w : World) (hW : Go.Lib.WhiteTab 5 w) : Calls Tryz.prog 91 #[.string s] w fun e w' => e = .returned (.int .i64 (nameR s)) ∧ Up w w' := by
  by_cases h0 : s.size = 0
  · obtain rfl := size_zero h0
    have HN := Hid.of (name_bad (.inl h0))
    go_enter Tryz.func91, Tryz.ntmps91
    go_wp2
    go_ret
    rw [HN.out]
    exact ⟨rfl, Up.refl _⟩
  have e0 := empty_no h0
  by_cases h1 : 100 < s.size
  · have d1 : (100 : Int) < (s.size : Int) := by omega
    have HN := Hid.of (name_bad (.inr (.inl h1)))
    clear h1 h0
    go_enter Tryz.func91, Tryz.ntmps91
    go_wp2
    go_ret
    rw [HN.out]
    exact ⟨rfl, Up.refl _⟩
  have d1 : ¬ (100 : Int) < (s.size : Int) := by omega
  have H01 := Hid.of (And.intro h0 h1)
  clear h0 h1
  go_enter Tryz.func91, Tryz.ntmps91
  go_wp2_with fail
  refine (Plain_walk s w).mono ?_
  rintro e w1 ⟨rfl, hu1⟩
  have HU1 := Hid.of hu1
  clear hu1
  by_cases h2 : plainR s = 0
  · rw [h2]
    dsimp only
    go_wp2_with fail
    refine (Any.strings_Contains_one Tryz.lays144 s 43 w1).mono ?_
    rintro e w2 ⟨rfl, hw2⟩
    obtain rfl := hw2.symm
    dsimp only
    by_cases h3 : 0 ≤ Go.Lib.indexByte s.data.toList 43
    · have HN := Hid.of (name_bad (.inr (.inr (.inr (.inl h3)))))
      rw [decide_eq_true h3]
      clear h3
      go_wp2
      go_ret
      rw [HN.out]
      exact ⟨rfl, HU1.out⟩
    · rw [decide_eq_false h3]
      have H3 := Hid.of h3
      clear h3
      go_wp2_with fail
      refine (CF_walk s w1 (WhiteTab_up hW HU1.out)).mono ?_
      rintro e w2 ⟨rfl, hu2⟩
      have HU2 := Hid.of (HU1.out.trans hu2)
      clear hu2
      dsimp only
      by_cases h4 : 0 ≤ Go.Lib.idxFunc Go.Lib.isSpaceR true s
      · have HN := Hid.of (name_bad (.inr (.inr (.inr (.inr h4)))))
        rw [decide_eq_true h4]
        clear h4
        go_wp2
        go_ret
        rw [HN.out]
        exact ⟨rfl, HU2.out⟩
      · rw [decide_eq_false h4]
        have HN := Hid.of (show nameR s = 0 from if_neg (by
          rintro (h | h | h | h | h)
          · exact H01.out.1 h
          · exact H01.out.2 h
          · exact h h2
          · have := H3.out; omega
          · exact h4 h))
        clear h4
        go_wp2
        go_ret
        rw [HN.out]
        exact ⟨rfl, HU2.out⟩
  · have HN := Hid.of (name_bad (.inr (.inr (.inl h2))))
    have h2' : (plainR s == 0) = false := by simpa using h2
    generalize plainR s = pr at *
    go_wp2
    go_ret
    rw [HN.out]
    exact ⟨rfl, HU1.out⟩
end Go.Proofs.YtaphjbcnnkoffaaGreatDoor
namespace Go.Proofs.YtaphjbcnnkoffaaGreatDoor
open Go.RowKit TextNum
/-- a list of signatures that is read -/
def SgAt (w : World) (b o : Nat) (s : Sg) : Prop := ∃ a n c, w.cell? ⟨b, o, none⟩ = some (.string s.name) ∧ w.cell? ⟨b, o + 1, none⟩ = some (.int .u32 (s.hash : Int)) ∧ w.cell? ⟨b, o + 2, none⟩ = some (.slice a n c) ∧ n = s.bytes.length ∧ Sl w (.slice a n c) s.bytes
def SigL (w : World) (v : Value) (ss : List Sg) : Prop := ∃ a c, v = .slice a ss.length c ∧ ss.length ≤ c ∧ (ss = [] ∨ ∃ b off, a = some ⟨b, off, none⟩ ∧ b < w.heap.size ∧ ∀ i (h : i < ss.length), SgAt w b (off + i * 3) ss[i])
theorem SgAt.up {w w' : World} {b o : Nat} {s : Sg} (h : SgAt w b o s) (u : Up w w') : SgAt w' b o s := by
  obtain ⟨a, n, c, h1, h2, h3, h4, h5⟩ := h
  exact ⟨a, n, c, u.cell h1, u.cell h2, u.cell h3, h4, h5.up u⟩
theorem SigL.up {w w' : World} {v : Value} {ss : List Sg} (h : SigL w v ss) (u : Up w w') : SigL w' v ss := by
  obtain ⟨a, c, e, hc, h⟩ := h
  refine ⟨a, c, e, hc, ?_⟩
  rcases h with h | ⟨b, off, e2, hb, h⟩
  · exact .inl h
  · exact .inr ⟨b, off, e2, Nat.lt_of_lt_of_le hb u.size, fun i hi => (h i hi).up u⟩
theorem SigL.get {w : World} {v : Value} {ss : List Sg} (h : SigL w v ss) : ∃ a c, v = .slice a ss.length c ∧ ss.length ≤ c ∧ ∀ i (hi : i < ss.length), ∃ b off, a = some ⟨b, off, none⟩ ∧ SgAt w b (off + i * 3) ss[i] := by
  obtain ⟨a, c, e, hc, h⟩ := h
  refine ⟨a, c, e, hc, fun i hi => ?_⟩
  rcases h with rfl | ⟨b, off, e2, hb, h⟩
  · cases hi
  · exact ⟨b, off, e2, h i hi⟩
theorem suf_ten7 (l : List UInt8) : Go.Lib.hasSuffix l [10] = decide (l.getLast? = some 10) := by
  unfold Go.Lib.hasSuffix
  rcases List.eq_nil_or_concat l with rfl | ⟨r, x, rfl⟩
  · rfl
  · by_cases h : x = 10
    · subst h; simp [List.isSuffixOf]
    · have : ¬ (10 : UInt8) = x := fun e => h e.symm
      simp [List.isSuffixOf, h, List.isPrefixOf, this]
open Classical in
set_option maxRecDepth 100000 in
theorem isNoteText_walk (t : ByteArray) (ht : t.size ≤ 140737488355328) (w : World) : Calls Tryz.prog 33 #[.string t] w fun e w' => e = .returned (.bool (decide (okT t))) ∧ Up w w' := by
  go_enter Tryz.func33, Tryz.ntmps33
  go_wp2_with fail
  refine (Any.strings_HasSuffix Tryz.lays100 t ⟨#[10]⟩ w (by omega)).mono ?_
  rintro e w' ⟨rfl, hw⟩
  obtain rfl := hw.symm
  rw [show (⟨#[10]⟩ : ByteArray).data.toList = [10] from rfl, suf_ten7]
  by_cases h : t.data.toList.getLast? = some 10
  · rw [decide_eq_true h]
    dsimp only
    go_wp2_with fail
    refine (Plain_walk t _).mono ?_
    rintro e w' ⟨rfl, u⟩
    by_cases hp : plainR t = 0
    · rw [hp]
      have HU := Hid.of u
      clear u
      dsimp only
      go_wp2
      go_ret
      exact ⟨by simp [okT, h, hp], HU.out⟩
    · have hp' : (plainR t == 0) = false := by simpa using hp
      have HU := Hid.of u
      clear u
      dsimp only
      go_wp2
      go_ret
      exact ⟨by simp [okT, hp], HU.out⟩
  · rw [decide_eq_false h]
    dsimp only
    go_wp2
    go_ret
    exact ⟨by rw [decide_eq_false (fun hk : okT t => h hk.1)]; rfl, Up.refl _⟩
end Go.Proofs.YtaphjbcnnkoffaaGreatDoor
namespace Go.Proofs.YtaphjbcnnkoffaaGreatDoor
open Go.RowKit TextNum
theorem Sl.by7 {w w' : World} {v : Value} {l : List UInt8} {row : Option Nat} (h : Sl w v l) (hg : w.grownBy w' row) (hr : ∀ r, row = some r → v.ownBlock ≠ some r) : Sl w' v l := by
  obtain ⟨a, c, rfl, hc, h⟩ := h
  refine ⟨a, c, rfl, hc, ?_⟩
  rcases h with h | ⟨b, off, rfl, hb, h⟩
  · exact .inl h
  · have e := hg.block b hb (fun e => hr b e.symm rfl)
    exact .inr ⟨b, off, rfl, Nat.lt_of_lt_of_le hb hg.size, fun i hi => by rw [World.cell?_of_block e]; exact h i hi⟩
/-- a signature and where its bytes stand -/
def qc (q : Sg × Option Addr × Nat) : List Value := [.string q.1.name, .int .u32 (q.1.hash : Int), .slice q.2.1 q.1.bytes.length q.2.2]
def qv (q : Sg × Option Addr × Nat) : Value := .slice q.2.1 q.1.bytes.length q.2.2
/-- a list of signatures of one's own -/
def OwnG (w : World) (B : Nat) (e : TypeId) (v : Value) (qs : List (Sg × Option Addr × Nat)) : Prop :=
  w.ownsRow B e 3 v qs.length (qs.flatMap qc) ∧ ∀ q, q ∈ qs → Sl w (qv q) q.1.bytes ∧ ∀ b, (qv q).ownBlock = some b → b < w.heap.size ∧ v.ownBlock ≠ some b
theorem qc_len (qs : List (Sg × Option Addr × Nat)) : (qs.flatMap qc).length = qs.length * 3 := by
  induction qs with
  | nil => rfl
  | cons q r ih => rw [List.flatMap_cons, List.length_append, ih]; simp only [qc, List.length_cons, List.length_nil]; omega
theorem qc_one (q : Sg × Option Addr × Nat) : ∀ u, u ∈ qc q → u.oneCell' = true := by
  intro v hv
  simp only [qc, List.mem_cons, List.not_mem_nil, or_false] at hv
  rcases hv with rfl | rfl | rfl <;> rfl
theorem qc_get : ∀ (qs : List (Sg × Option Addr × Nat)) (i : Nat) (h : i < qs.length) (j : Nat) (_ : j < 3), (qs.flatMap qc)[i * 3 + j]? = (qc qs[i])[j]?
  | q :: r, 0, _, j, hj => by
    rw [List.flatMap_cons, List.getElem?_append_left (by simp only [qc, List.length_cons, List.length_nil]; omega)]
    simp
  | q :: r, i + 1, h, j, hj => by
    rw [List.flatMap_cons, List.getElem?_append_right (by simp only [qc, List.length_cons, List.length_nil]; omega)]
    have e : (i + 1) * 3 + j - (qc q).length = i * 3 + j := by simp only [qc, List.length_cons, List.length_nil]; omega
    rw [e, qc_get r i (by simpa using h) j hj]
    simp
theorem OwnG.up {w w' : World} {B : Nat} {e : TypeId} {v : Value} {qs : List (Sg × Option Addr × Nat)} (h : OwnG w B e v qs) (u : Up w w') : OwnG w' B e v qs := by
  refine ⟨⟨h.1.1, ?_⟩, fun q hq => ⟨(h.2 q hq).1.up u, fun b hb => ⟨Nat.lt_of_lt_of_le ((h.2 q hq).2 b hb).1 u.size, ((h.2 q hq).2 b hb).2⟩⟩⟩
  rcases h.1.2 with h | ⟨g, cap, cur, e, hb, hg, r⟩
  · exact .inl h
  · refine .inr ⟨g, cap, cur, e, hb, ?_, r⟩
    rw [u.block g (Array.getElem?_eq_some_iff.1 hg).1]; exact hg
theorem OwnG.sigL {w : World} {B : Nat} {e : TypeId} {v : Value} {qs : List (Sg × Option Addr × Nat)} (h : OwnG w B e v qs) : SigL w v (qs.map (·.1)) := by
  have h0 := h.1
  rcases h.1.2 with ⟨rfl, hn⟩ | ⟨g, cap, cur, rfl, hb, hg, hnc, _⟩
  · obtain rfl : qs = [] := List.length_eq_zero_iff.1 hn
    exact ⟨none, 0, rfl, Nat.le_refl _, .inl rfl⟩
  · refine ⟨_, cap, by rw [List.length_map], by rw [List.length_map]; exact hnc, .inr ⟨g, 0, rfl, (Array.getElem?_eq_some_iff.1 hg).1, fun i hi => ?_⟩⟩
    have hi' : i < qs.length := by rwa [List.length_map] at hi
    have hc : ∀ j, j < 3 → ∀ u, (qc qs[i])[j]? = some u → w.cell? ⟨g, 0 + i * 3 + j, none⟩ = some u := fun j hj u hu => by
      have := World.ownsRow.cells h0 (g := g) rfl (i * 3 + j) u (by rw [qc_get qs i hi' j hj]; exact hu)
      rw [add_plain] at this
      rw [← this]
      congr 2
      omega
    rw [List.getElem_map]
    refine ⟨qs[i].2.1, qs[i].1.bytes.length, qs[i].2.2, ?_, ?_, ?_, rfl, (h.2 qs[i] (List.getElem_mem hi')).1⟩
    · exact hc 0 (by decide) _ rfl
    · exact hc 1 (by decide) _ rfl
    · exact hc 2 (by decide) _ rfl
/-- a type of signatures -/
def SgT (t e : TypeId) : Prop := Tryz.prog.underlying t = some (.slice e) ∧ ∃ i z, Tryz.prog.info? e = some i ∧ i.zero = some z ∧ i.size = 3 ∧ i.bytes = 48 ∧ z.cells.size = 3
theorem sgT_of {t e : TypeId} (ht : Tryz.prog.underlying t = some (.slice e)) (h : (Tryz.prog.info? e).map (fun i => (i.zero.map (fun z => z.cells.size), i.size, i.bytes)) = some (some 3, 3, 48)) : SgT t e := by
  refine ⟨ht, ?_⟩
  cases hi : Tryz.prog.info? e with
  | none => rw [hi] at h; simp at h
  | some i =>
    rw [hi] at h
    simp only [Option.map_some, Option.some.injEq, Prod.mk.injEq] at h
    obtain ⟨h1, h2, h3⟩ := h
    cases hz : i.zero with
    | none => rw [hz] at h1; simp at h1
    | some z => rw [hz] at h1; simp only [Option.map_some, Option.some.injEq] at h1; exact ⟨i, z, rfl, hz, h2, h3, h1⟩
theorem sgT1 : SgT 52 113 := sgT_of Tryz.underlying52 (by kernel_rfl)
theorem run_app_sg {w : World} {B : Nat} {t e ty : TypeId} (hT : SgT t e) {v : Value} {qs : List (Sg × Option Addr × Nat)} (hown : OwnG w B e v qs) (q : Sg × Option Addr × Nat) (ad : Addr) (c : Nat) (hu : ∀ j u, (qc q)[j]? = some u → w.cell? (ad.add j) = some u)
    (hq : Sl w (qv q) q.1.bytes) (hqb : ∀ b, (qv q).ownBlock = some b → b < w.heap.size ∧ v.ownBlock ≠ some b) (hn : qs.length < 1099511627776) (hB : B ≤ w.heap.size) :
    ∃ v' w', (Builtin.append_ #[t, t] ty #[v, .slice (some ad) 1 c]).run Tryz.prog w = .ok v' w' ∧ OwnG w' B e v' (qs ++ [q]) ∧ Below B w w' ∧ w.grownBy w' v.ownBlock := by
  obtain ⟨ht, i, z, hi, hz, hsize, hby, hzs⟩ := hT
  obtain ⟨hrow, hall⟩ := hown
  have h63 : qs.length + 1 ≤ maxLen := by unfold maxLen; omega
  have hul : (qc q).length = 3 := rfl
  obtain ⟨v', w', hr, ho, hg, hiff⟩ := run_append_own (P := Tryz.prog) w B t ty e i z 3 48 ht hi hz hsize hby hzs (by decide) v qs.length (qs.flatMap qc) hrow ad 1 c (qc q) (by rw [hul]) hu (qc_one q) h63 (by omega) hB
  have hv : ∀ g, v'.ownBlock = some g → v.ownBlock = some g ∨ w.heap.size ≤ g := by
    rcases hrow.2 with ⟨rfl, hn0⟩ | ⟨g, cap, cur, rfl, hbg, hgg, hnc, hcm, hcs, htake⟩
    · have h2 := run_append_nil (P := Tryz.prog) w t ty e i z ht hi hz ad 1 c (qc q) (by rw [hsize, hul]) hu (by decide) (by decide) (by rw [hby]; decide)
      rw [h2] at hr
      injection hr with hv hw
      subst hw hv
      intro g hg
      injection hg with hg
      exact .inr (Nat.le_of_eq hg)
    · by_cases hroom : qs.length + 1 ≤ cap
      · have h2 := run_append_room (P := Tryz.prog) w t ty e i ht hi g qs.length cap cur hgg ad 1 c (qc q) (by rw [hsize, hul]) hu (qc_one q) hroom (by rw [hsize, hcs, hul]; omega)
        rw [h2] at hr
        injection hr with hv hw
        subst hw hv
        exact fun g hg => .inl hg
      · have holds : ∀ j x, (qs.flatMap qc)[j]? = some x → w.cell? ((⟨g, 0, none⟩ : Addr).add j) = some x := World.ownsRow.cells hrow (g := g) rfl
        have h2 := run_append_grow (P := Tryz.prog) w t ty e i z ht hi hz ⟨g, 0, none⟩ qs.length cap (qs.flatMap qc) (by rw [hsize]; exact hrow.1) holds ad 1 c (qc q) (by rw [hsize, hul]) hu (by omega) (by omega) (growslice_fits (by omega) (by rw [hby]; omega))
        rw [h2] at hr
        injection hr with hv hw
        subst hw hv
        intro g hg
        injection hg with hg
        exact .inr (Nat.le_of_eq hg)
  refine ⟨v', w', hr, ⟨?_, ?_⟩, (Below.refl B w).grown hg hB (fun k hk => (World.ownsRow.lt hrow k hk).1), hg⟩
  · rw [List.length_append, List.flatMap_append]
    simpa using ho
  · intro x hx
    have hx' : Sl w (qv x) x.1.bytes ∧ ∀ b, (qv x).ownBlock = some b → b < w.heap.size ∧ v.ownBlock ≠ some b := by
      rcases List.mem_append.1 hx with hx | hx
      · exact hall x hx
      · obtain rfl := List.mem_singleton.1 hx
        exact ⟨hq, hqb⟩
    refine ⟨hx'.1.by7 hg (fun r hr hb => (hx'.2 r hb).2 hr), fun b hb => ⟨Nat.lt_of_lt_of_le (hx'.2 b hb).1 hg.size, fun hb' => ?_⟩⟩
    rcases hv b hb' with h | h
    · exact (hx'.2 b hb).2 h
    · have := (hx'.2 b hb).1
      omega
theorem wpList_appG {ops : Array Oper} {rest : List Oper} {o : Oper} {a : Act} {w : World} {Q : Exit → Act → World → Prop} {t e : TypeId} (hT : SgT t e) (hgd : o.guard = none) (s x : Operand)
    (ho : o.op = .call { callee := .builtin .append, args := #[s, x], argTypes := #[t, t] }) (B : Nat) (v : Value) (qs : List (Sg × Option Addr × Nat)) (q : Sg × Option Addr × Nat) (hs : a.eval s = v) (hown : OwnG w B e v qs)
    (ad : Addr) (c : Nat) (hx : a.eval x = .slice (some ad) 1 c) (hu : ∀ j u, (qc q)[j]? = some u → w.cell? (ad.add j) = some u)
    (hq : Sl w (qv q) q.1.bytes) (hqb : ∀ b, (qv q).ownBlock = some b → b < w.heap.size ∧ v.ownBlock ≠ some b) (hn : qs.length < 1099511627776) (hB : B ≤ w.heap.size)
    (h : ∀ v' w', OwnG w' B e v' (qs ++ [q]) → Below B w w' → wpList Tryz.prog ops Q rest (a.put o.dst v') w') : wpList Tryz.prog ops Q (o :: rest) a w := by
  refine wpList_plain hgd fun K hK => ?_
  obtain ⟨v', w', hr, h2, h3, _⟩ := run_app_sg (ty := o.type) hT hown q ad c hu hq hqb hn hB
  unfold Oper.wp execOp
  simp only [ho, resolve, invoke, builtin, Sem.run_bind, Sem.run_pure, Result.andThen_ok, List.map_toArray, List.map_cons, List.map_nil, hs, hx, hr]
  exact hK _ _ (h v' w' h2 h3)
theorem wp_appG {o : Oper} {a : Act} {w : World} {K : Act → World → Prop} {Q : Exit → Act → World → Prop} {t e : TypeId} (hT : SgT t e) (s x : Operand)
    (ho : o.op = .call { callee := .builtin .append, args := #[s, x], argTypes := #[t, t] }) (B : Nat) (v : Value) (qs : List (Sg × Option Addr × Nat)) (q : Sg × Option Addr × Nat) (hs : a.eval s = v) (hown : OwnG w B e v qs)
    (ad : Addr) (c : Nat) (hx : a.eval x = .slice (some ad) 1 c) (hu : ∀ j u, (qc q)[j]? = some u → w.cell? (ad.add j) = some u)
    (hq : Sl w (qv q) q.1.bytes) (hqb : ∀ b, (qv q).ownBlock = some b → b < w.heap.size ∧ v.ownBlock ≠ some b) (hn : qs.length < 1099511627776) (hB : B ≤ w.heap.size)
    (h : ∀ v' w', OwnG w' B e v' (qs ++ [q]) → Below B w w' → K (a.put o.dst v') w') : Oper.wp Tryz.prog o a w K Q := by
  obtain ⟨v', w', hr, h2, h3, _⟩ := run_app_sg (ty := o.type) hT hown q ad c hu hq hqb hn hB
  unfold Oper.wp execOp
  simp only [ho, resolve, invoke, builtin, Sem.run_bind, Sem.run_pure, Result.andThen_ok, List.map_toArray, List.map_cons, List.map_nil, hs, hx, hr]
  exact h v' w' h2 h3
theorem wpList_appG2 {ops : Array Oper} {rest : List Oper} {o : Oper} {a : Act} {w : World} {Q : Exit → Act → World → Prop} {t e : TypeId} (hT : SgT t e) (hgd : o.guard = none) (s x : Operand)
    (ho : o.op = .call { callee := .builtin .append, args := #[s, x], argTypes := #[t, t] }) (B : Nat) (v : Value) (qs : List (Sg × Option Addr × Nat)) (q : Sg × Option Addr × Nat) (hs : a.eval s = v) (hown : OwnG w B e v qs)
    (ad : Addr) (c : Nat) (hx : a.eval x = .slice (some ad) 1 c) (hu : ∀ j u, (qc q)[j]? = some u → w.cell? (ad.add j) = some u)
    (hq : Sl w (qv q) q.1.bytes) (hqb : ∀ b, (qv q).ownBlock = some b → b < w.heap.size ∧ v.ownBlock ≠ some b) (hn : qs.length < 1099511627776) (hB : B ≤ w.heap.size)
    (h : ∀ v' w', OwnG w' B e v' (qs ++ [q]) → Below B w w' → w.grownBy w' v.ownBlock → wpList Tryz.prog ops Q rest (a.put o.dst v') w') : wpList Tryz.prog ops Q (o :: rest) a w := by
  refine wpList_plain hgd fun K hK => ?_
  obtain ⟨v', w', hr, h2, h3, h4⟩ := run_app_sg (ty := o.type) hT hown q ad c hu hq hqb hn hB
  unfold Oper.wp execOp
  simp only [ho, resolve, invoke, builtin, Sem.run_bind, Sem.run_pure, Result.andThen_ok, List.map_toArray, List.map_cons, List.map_nil, hs, hx, hr]
  exact hK _ _ (h v' w' h2 h3 h4)
theorem wp_appG2 {o : Oper} {a : Act} {w : World} {K : Act → World → Prop} {Q : Exit → Act → World → Prop} {t e : TypeId} (hT : SgT t e) (s x : Operand)
    (ho : o.op = .call { callee := .builtin .append, args := #[s, x], argTypes := #[t, t] }) (B : Nat) (v : Value) (qs : List (Sg × Option Addr × Nat)) (q : Sg × Option Addr × Nat) (hs : a.eval s = v) (hown : OwnG w B e v qs)
    (ad : Addr) (c : Nat) (hx : a.eval x = .slice (some ad) 1 c) (hu : ∀ j u, (qc q)[j]? = some u → w.cell? (ad.add j) = some u)
    (hq : Sl w (qv q) q.1.bytes) (hqb : ∀ b, (qv q).ownBlock = some b → b < w.heap.size ∧ v.ownBlock ≠ some b) (hn : qs.length < 1099511627776) (hB : B ≤ w.heap.size)
    (h : ∀ v' w', OwnG w' B e v' (qs ++ [q]) → Below B w w' → w.grownBy w' v.ownBlock → K (a.put o.dst v') w') : Oper.wp Tryz.prog o a w K Q := by
  obtain ⟨v', w', hr, h2, h3, h4⟩ := run_app_sg (ty := o.type) hT hown q ad c hu hq hqb hn hB
  unfold Oper.wp execOp
  simp only [ho, resolve, invoke, builtin, Sem.run_bind, Sem.run_pure, Result.andThen_ok, List.map_toArray, List.map_cons, List.map_nil, hs, hx, hr]
  exact h v' w' h2 h3 h4
/-- make([]Signature, 0, n) -/
theorem wpList_mkG {ops : Array Oper} {rest : List Oper} {o : Oper} {a : Act} {w : World} {Q : Exit → Act → World → Prop} (hg : o.guard = none) (l c : Operand) (hop : o.op = Op.makeSlice 52 l c)
    (kl kc : IntKind) (C : Int) (n : Nat) (hl : a.eval l = .int kl 0) (hc : a.eval c = .int kc C) (hC : C = (n : Int)) (hn : n ≤ 1099511627776)
    (hK : ∀ w', OwnG w' w.heap.size 113 (.slice (some ⟨w.heap.size, 0, none⟩) 0 n) [] → Up w w' → wpList Tryz.prog ops Q rest (a.put o.dst (.slice (some ⟨w.heap.size, 0, none⟩) 0 n)) w') : wpList Tryz.prog ops Q (o :: rest) a w := by
  obtain ⟨ht, i, z, hi, hz, hsize, hby, hzs⟩ := sgT1
  refine wpList_make_own w hg l c 52 hop w.heap.size 113 i z 3 ht hi hz hsize kl kc C n hl hc hC (by rw [hby]; omega) (by unfold maxLen; omega) (Nat.le_refl _) ?_
  intro w' h1 h2
  exact hK w' ⟨h1, by simp⟩ ((Below.refl _ w).grown h2 (Nat.le_refl _) (fun k hk => by cases hk))
end Go.Proofs.YtaphjbcnnkoffaaGreatDoor
namespace Go.Proofs.YtaphjbcnnkoffaaGreatDoor
open Go.RowKit TextNum
theorem orS32 (a b k : Nat) (hb : b < 2 ^ k) (h : 2 ^ k * a + b < 4294967296) : bits .or .u32 ((2 ^ k * a : Nat) : Int) (b : Int) = ((2 ^ k * a + b : Nat) : Int) := by
  rw [u32_or_nat _ _ (by omega) (by omega), Nat.two_pow_add_eq_or_of_lt hb]
theorem or_h4 (x0 x1 x2 x3 : UInt8) : bits .or .u32 (bits .or .u32 (bits .or .u32 ((x0.toNat : Int) * 16777216) ((x1.toNat : Int) * 65536)) ((x2.toNat : Int) * 256)) (x3.toNat : Int) = (h4 [x0, x1, x2, x3] : Int) := by
  have h0 := x0.toNat_lt
  have h1 := x1.toNat_lt
  have h2 := x2.toNat_lt
  have h3 := x3.toNat_lt
  have e1 := orS32 x0.toNat (x1.toNat * 65536) 24 (by omega) (by omega)
  have e2 := orS32 (x0.toNat * 256 + x1.toNat) (x2.toNat * 256) 16 (by omega) (by omega)
  have e3 := orS32 (x0.toNat * 65536 + x1.toNat * 256 + x2.toNat) x3.toNat 8 (by omega) (by omega)
  rw [show ((x0.toNat : Int) * 16777216) = ((2 ^ 24 * x0.toNat : Nat) : Int) by omega, show ((x1.toNat : Int) * 65536) = ((x1.toNat * 65536 : Nat) : Int) by omega, e1,
    show ((2 ^ 24 * x0.toNat + x1.toNat * 65536 : Nat) : Int) = ((2 ^ 16 * (x0.toNat * 256 + x1.toNat) : Nat) : Int) by omega, show ((x2.toNat : Int) * 256) = ((x2.toNat * 256 : Nat) : Int) by omega, e2,
    show ((2 ^ 16 * (x0.toNat * 256 + x1.toNat) + x2.toNat * 256 : Nat) : Int) = ((2 ^ 8 * (x0.toNat * 65536 + x1.toNat * 256 + x2.toNat) : Nat) : Int) by omega, e3]
  simp only [h4, List.getD_cons_zero, List.getD_cons_succ]
  omega
set_option maxRecDepth 100000 in
theorem hashNumber_walk (x0 x1 x2 x3 : UInt8) (w : World) : Calls Tryz.prog 92 #[.agg #[.int .u8 (x0.toNat : Int), .int .u8 (x1.toNat : Int), .int .u8 (x2.toNat : Int), .int .u8 (x3.toNat : Int)]] w fun e w' => e = .returned (.int .u32 (h4 [x0, x1, x2, x3] : Int)) ∧ Up w w' := by
  have h0 := x0.toNat_lt
  have h1 := x1.toNat_lt
  have h2 := x2.toNat_lt
  have h3 := x3.toNat_lt
  go_enter Tryz.func92, Tryz.ntmps92
  go_wp2
  go_ret
  refine ⟨?_, (Up.refl w).alloc _⟩
  rw [← or_h4]
  rfl
end Go.Proofs.YtaphjbcnnkoffaaGreatDoor
namespace Go.Proofs.YtaphjbcnnkoffaaGreatDoor
open Go.RowKit TextNum

theorem byteCells_cb (m : List UInt8) : byteCells ⟨m.toArray⟩ = cb m := by simp [byteCells, cb]
theorem str_size (m : List UInt8) : (⟨m.toArray⟩ : ByteArray).size = m.length := by simp [ByteArray.size]

/-- a text's bytes are appended to a list of one's own -/
theorem run_app_str {w : World} {B : Nat} {v : Value} {l : List UInt8} (m : List UInt8) (ty : TypeId) (hown : Own w B v l) (hn : l.length + m.length ≤ 140737488355328) (hB : B ≤ w.heap.size) :
    ∃ v' w', (Builtin.append_ #[22, 9] ty #[v, .string ⟨m.toArray⟩]).run Tryz.prog w = .ok v' w' ∧ Own w' B v' (l ++ m) ∧ Below B w w' := by
  obtain ⟨i, hi, hz, hsize, hby⟩ := info_parts Tryz.info8
  have ht : Tryz.prog.underlying 22 = some (.slice 5) := Tryz.underlying22
  have hs0 : Src Tryz.prog 1 9 (.string ⟨m.toArray⟩) (⟨m.toArray⟩ : ByteArray).size (byteCells ⟨m.toArray⟩) w := Src.ofString w Tryz.underlying9 ⟨m.toArray⟩
  rw [byteCells_cb, str_size] at hs0
  have hs : Src Tryz.prog i.size 9 (.string ⟨m.toArray⟩) m.length (cb m) w := by rw [hsize]; exact hs0
  have hlen : (cb l ++ cb m).length = l.length + m.length := by simp [cb]
  have grown : ∀ (old : Nat), old < l.length + m.length →
      (w.drew.alloc (.cells ((cb l ++ cb m).toArray ++ Builtin.zeroCells (Value.int .u8 0).cells (grownCap w (l.length + m.length) old 5 - (l.length + m.length))) 5)).ownsRow B 5 1
        (.slice (some ⟨w.heap.size, 0, none⟩) (l.length + m.length) (grownCap w (l.length + m.length) old 5)) (l.length + m.length) (cb l ++ cb m) := by
    intro old ho
    have hge := grownCap_ge w (l.length + m.length) old 5
    have hcm : grownCap w (l.length + m.length) old 5 ≤ maxLen := grownCap_le_maxLen w _ old _ (by unfold maxLen; omega)
    refine ⟨by rw [hlen, Nat.mul_one], .inr ⟨w.heap.size, _, _, rfl, hB, heap_alloc_new w.drew _, hge, hcm, ?_, ?_⟩⟩
    · simp only [Array.size_append, List.size_toArray, size_zeroCells, hlen]
      simp [Value.cells]
      omega
    · simp only [Array.toList_append]
      rw [Nat.mul_one, ← hlen]
      exact List.take_left
  have fin : ∀ {v' : Value} {w' : World}, w'.ownsRow B 5 1 v' (l.length + m.length) (cb l ++ cb m) → Own w' B v' (l ++ m) := by
    intro v' w' h
    unfold Own
    rw [List.length_append, cb_append]; exact h
  have up : ∀ o, Below B w (w.drew.alloc o) := fun o => Below.alloc (Below.drew (Below.refl B w)) hB o
  rcases hown.2 with ⟨rfl, e0⟩ | ⟨g, cap, cur, rfl, hbg, hg, hnc, hcm, hcs, htake⟩
  · have hl : l = [] := List.eq_nil_of_length_eq_zero e0
    subst hl
    by_cases hm : m = []
    · subst hm
      refine ⟨.slice none 0 0, w, ?_, hown, Below.refl _ _⟩
      have hk : Tryz.prog.underlying 9 = some .string := Tryz.underlying9
      simp [Builtin.append_, run_underlying ht, run_underlying hk, sizeOf, typeInfo, hi, Builtin.lenOf, Builtin.firstCells]
      rw [if_pos (show (⟨#[]⟩ : ByteArray) = ByteArray.empty from rfl)]
      rfl
    · have hp : 0 < m.length := List.length_pos_iff.2 hm
      have hr := run_append_grow_src (P := Tryz.prog) w 22 9 ty 5 i _ ht hi hz none 0 0 [] (run_firstCells_none w.drew i.size 0 0 0) _ m.length (cb m) hs (by omega) (by simp at hn; omega) (growslice_fits (by omega) (by rw [hby]; simp at hn; omega))
      have hgr := grown 0 (by simpa using hp)
      simp only [List.length_nil] at hgr fin
      exact ⟨_, _, hr, fin hgr, up _⟩
  · by_cases hroom : l.length + m.length ≤ cap
    · have hfit : l.length * 1 + (cb m).length ≤ cur.size := by rw [hcs, cb_length]; omega
      have hst := run_storeCells_at Tryz.prog g (l.length * i.size) 5 (cb m) 0 cur w hg (by rw [hsize]; simpa using hfit) (cb_one m)
      have hk : Tryz.prog.underlying 9 = some .string := Tryz.underlying9
      simp only [Nat.add_zero] at hst
      have hr : (Builtin.append_ #[22, 9] ty #[.slice (some ⟨g, 0, none⟩) l.length cap, .string ⟨m.toArray⟩]).run Tryz.prog w =
          .ok (.slice (some ⟨g, 0, none⟩) (l.length + m.length) cap) (w.setRow g (cur.toList.take (l.length * i.size) ++ cb m ++ cur.toList.drop (l.length * i.size + (cb m).length)).toArray) := by
        simp [Builtin.append_, run_underlying ht, run_underlying hk, sizeOf, typeInfo, hi, hs.len, hroom, hs.cells, Addr.add_lit, hst]
      refine ⟨_, _, hr, fin ⟨by rw [hlen, Nat.mul_one], .inr ⟨g, cap, _, rfl, hbg, setRow_heap w g cur _ 5 _ hg, hroom, hcm, ?_, ?_⟩⟩, ⟨rfl, rfl, rfl, by simp, fun k hk => setRow_other w g k _ (by omega)⟩⟩
      · simp only [List.size_toArray, List.length_append, List.length_take, List.length_drop, Array.length_toList, cb_length, hsize]
        omega
      · rw [hsize, htake, ← Nat.mul_one (l.length + m.length), Nat.mul_one, ← hlen]
        simp only [Nat.mul_one]
        exact List.take_left
    · have holds : ∀ j u, (cb l)[j]? = some u → w.cell? ((⟨g, 0, none⟩ : Addr).add j) = some u := World.ownsRow.cells hown (g := g) rfl
      have hold := run_firstCells_some (P := Tryz.prog) w.drew i.size l.length ⟨g, 0, none⟩ l.length cap (cb l) (by rw [hsize, cb_length, Nat.mul_one]) (by simpa using holds)
      have hr := run_append_grow_src (P := Tryz.prog) w 22 9 ty 5 i _ ht hi hz (some ⟨g, 0, none⟩) l.length cap (cb l) hold _ m.length (cb m) hs (by omega) (by omega) (growslice_fits (by omega) (by rw [hby]; omega))
      exact ⟨_, _, hr, fin (grown cap (by omega)), up _⟩

theorem wpList_apps {ops : Array Oper} {rest : List Oper} {o : Oper} {a : Act} {w : World} {Q : Exit → Act → World → Prop} (hgd : o.guard = none) (s x : Operand)
    (ho : o.op = .call { callee := .builtin .append, args := #[s, x], argTypes := #[22, 9] }) (B : Nat) (v : Value) (l m : List UInt8) (hs : a.eval s = v) (hown : Own w B v l)
    (hx : a.eval x = .string ⟨m.toArray⟩) (hn : l.length + m.length ≤ 140737488355328) (hB : B ≤ w.heap.size)
    (h : ∀ v' w', Own w' B v' (l ++ m) → Below B w w' → wpList Tryz.prog ops Q rest (a.put o.dst v') w') : wpList Tryz.prog ops Q (o :: rest) a w := by
  refine wpList_plain hgd fun K hK => ?_
  obtain ⟨v', w', hr, h2, h3⟩ := run_app_str m o.type hown hn hB
  unfold Oper.wp execOp
  simp only [ho, resolve, invoke, builtin, Sem.run_bind, Sem.run_pure, Result.andThen_ok, List.map_toArray, List.map_cons, List.map_nil, hs, hx, hr]
  exact hK _ _ (h v' w' h2 h3)
end Go.Proofs.YtaphjbcnnkoffaaGreatDoor
namespace Go.Proofs.YtaphjbcnnkoffaaGreatDoor
open Go.RowKit TextNum
/-- a list of one's own whose block may bear a mark behind its room (a text made to bytes) -/
def OwnM (w : World) (B : Nat) (v : Value) (l : List UInt8) : Prop := ∃ g cap cur fr, v = .slice (some ⟨g, 0, none⟩) l.length cap ∧ B ≤ g ∧ w.heap[g]? = some (.cells cur 5 fr) ∧ (fr.2 = 0 ∨ cap ≤ fr.1) ∧ l.length ≤ cap ∧ cap ≤ maxLen ∧ cur.size = cap ∧ cur.toList.take l.length = cb l
theorem OwnM.up {w w' : World} {B : Nat} {v : Value} {l : List UInt8} (h : OwnM w B v l) (k : Up w w') : OwnM w' B v l := by
  obtain ⟨g, cap, cur, fr, rfl, hB, hg, r⟩ := h
  refine ⟨g, cap, cur, fr, rfl, hB, ?_, r⟩
  rw [k.block g (Array.getElem?_eq_some_iff.1 hg).1]; exact hg
theorem OwnM.base {w : World} {B B' : Nat} {v : Value} {l : List UInt8} (h : OwnM w B v l) (hB : B' ≤ B) : OwnM w B' v l := by
  obtain ⟨g, cap, cur, fr, e, hb, r⟩ := h
  exact ⟨g, cap, cur, fr, e, Nat.le_trans hB hb, r⟩
theorem OwnM.cells {w : World} {B : Nat} {g cap : Nat} {l : List UInt8} (h : OwnM w B (.slice (some ⟨g, 0, none⟩) l.length cap) l) : g < w.heap.size ∧ ∀ j u, (cb l)[j]? = some u → w.cell? ⟨g, j, none⟩ = some u := by
  obtain ⟨g', cap', cur, fr, e, hB, hg, _, _, _, _, ht⟩ := h
  injection e with e1 _ _
  injection e1 with e1
  injection e1 with e1 _ _
  subst e1
  refine ⟨(Array.getElem?_eq_some_iff.1 hg).1, fun j u hu => ?_⟩
  rw [cell_of_row w g j cur _ fr hg]
  rw [← ht, List.getElem?_take] at hu
  split at hu
  · simpa using hu
  · cases hu
theorem OwnM.sl {w : World} {B : Nat} {v : Value} {l : List UInt8} (h : OwnM w B v l) : Sl w v l := by
  have h0 := h
  obtain ⟨g, cap, cur, fr, rfl, hB, hg, _, hc, _⟩ := h
  obtain ⟨h1, h2⟩ := h0.cells
  refine ⟨_, cap, rfl, hc, .inr ⟨g, 0, rfl, h1, fun i hi => ?_⟩⟩
  rw [Nat.zero_add]
  exact h2 i _ (cb_get hi)
theorem run_storeCells_mk (P : Program) (g o : Nat) (t : TypeId) (fz : Nat × Nat) : ∀ (vs : List Value) (i : Nat) (cur : Array Value) (w : World), w.heap[g]? = some (.cells cur t fz) → (fz.2 = 0 ∨ cur.size ≤ fz.1) → o + i + vs.length ≤ cur.size → (∀ v ∈ vs, v.oneCell' = true) →
    (storeCells ⟨g, o, none⟩ vs i).run P w = .ok () (w.setRow g (cur.toList.take (o + i) ++ vs ++ cur.toList.drop (o + i + vs.length)).toArray)
  | [], i, cur, w, hg, _, _, _ => by
    simp only [storeCells, List.append_nil, List.length_nil, Nat.add_zero, List.take_append_drop, Array.toArray_toList]
    rw [setRow_self w g cur t fz hg]
    rfl
  | v :: rest, i, cur, w, hg, hfz, hl, h1 => by
    have hi : o + i < cur.size := by simp at hl; omega
    have hadd : (⟨g, o, none⟩ : Addr).add i = ⟨g, o + i, none⟩ := by unfold Addr.add; split <;> simp_all
    have hcell : w.cell? ⟨g, o + i, none⟩ = some cur[o + i] := by simp [World.cell?, hg, hi]
    have hfro : w.frozen? ⟨g, o + i, none⟩ = false := by
      obtain ⟨lo, hi'⟩ := fz
      simp only [World.frozen?, hg, Bool.and_eq_false_iff, decide_eq_false_iff_not]
      simp only at hfz
      omega
    have hst : (store ((⟨g, o, none⟩ : Addr).add i) v).run P w = .ok () (w.setRow g (cur.setIfInBounds (o + i) v)) := by
      rw [hadd, run_store P w _ v _ (h1 v (by simp)), hcell]
      simp [hfro, setCell_eq_setRow w g (o + i) cur t fz v hg]
    have ih := run_storeCells_mk P g o t fz rest (i + 1) (cur.setIfInBounds (o + i) v) (w.setRow g (cur.setIfInBounds (o + i) v)) (setRow_heap w g cur _ t _ hg) (by simpa using hfz) (by simp at hl ⊢; omega) (fun x hx => h1 x (by simp [hx]))
    simp only [storeCells, Sem.run_bind, hst, Result.andThen_ok, ih, setRow_setRow]
    congr 3
    have e := list_seg_step cur.toList (o + i) v rest (by simp at hl ⊢; omega)
    simpa [Array.toList_setIfInBounds, Nat.add_assoc] using e
theorem run_app_strM {w : World} {B : Nat} {v : Value} {l : List UInt8} (m : List UInt8) (ty : TypeId) (hown : OwnM w B v l) (hn : l.length + m.length ≤ 140737488355328) (hB : B ≤ w.heap.size) :
    ∃ v' w', (Builtin.append_ #[22, 9] ty #[v, .string ⟨m.toArray⟩]).run Tryz.prog w = .ok v' w' ∧ OwnM w' B v' (l ++ m) ∧ Below B w w' := by
  obtain ⟨i, hi, hz, hsize, hby⟩ := info_parts Tryz.info8
  have ht : Tryz.prog.underlying 22 = some (.slice 5) := Tryz.underlying22
  have hs0 : Src Tryz.prog 1 9 (.string ⟨m.toArray⟩) (⟨m.toArray⟩ : ByteArray).size (byteCells ⟨m.toArray⟩) w := Src.ofString w Tryz.underlying9 ⟨m.toArray⟩
  rw [byteCells_cb, str_size] at hs0
  have hs : Src Tryz.prog i.size 9 (.string ⟨m.toArray⟩) m.length (cb m) w := by rw [hsize]; exact hs0
  have hlen : (cb l ++ cb m).length = l.length + m.length := by simp [cb]
  have h0 := hown
  obtain ⟨g, cap, cur, fr, rfl, hbg, hg, hfr, hnc, hcm, hcs, htake⟩ := hown
  by_cases hroom : l.length + m.length ≤ cap
  · have hfit : l.length + (cb m).length ≤ cur.size := by rw [hcs, cb_length]; omega
    have hst := run_storeCells_mk Tryz.prog g (l.length * i.size) 5 fr (cb m) 0 cur w hg (by rw [hcs]; exact hfr) (by rw [hsize]; simpa using hfit) (cb_one m)
    have hk : Tryz.prog.underlying 9 = some .string := Tryz.underlying9
    simp only [Nat.add_zero] at hst
    have hr : (Builtin.append_ #[22, 9] ty #[.slice (some ⟨g, 0, none⟩) l.length cap, .string ⟨m.toArray⟩]).run Tryz.prog w =
        .ok (.slice (some ⟨g, 0, none⟩) (l.length + m.length) cap) (w.setRow g (cur.toList.take (l.length * i.size) ++ cb m ++ cur.toList.drop (l.length * i.size + (cb m).length)).toArray) := by
      simp [Builtin.append_, run_underlying ht, run_underlying hk, sizeOf, typeInfo, hi, hs.len, hroom, hs.cells, Addr.add_lit, hst]
    refine ⟨_, _, hr, ⟨g, cap, _, fr, by rw [List.length_append], hbg, setRow_heap w g cur _ 5 _ hg, hfr, by rw [List.length_append]; exact hroom, hcm, ?_, ?_⟩, ⟨rfl, rfl, rfl, by simp, fun k hk => setRow_other w g k _ (by omega)⟩⟩
    · simp only [List.size_toArray, List.length_append, List.length_take, List.length_drop, Array.length_toList, cb_length, hsize]
      omega
    · rw [hsize, Nat.mul_one, htake, cb_append, List.length_append, ← hlen]
      exact List.take_left
  · obtain ⟨_, holds⟩ := h0.cells
    have hold := run_firstCells_some (P := Tryz.prog) w.drew i.size l.length ⟨g, 0, none⟩ l.length cap (cb l) (by rw [hsize, cb_length, Nat.mul_one]) (fun j u hj => by rw [add_plain, Nat.zero_add]; exact (World.cell?_drew _ _).trans (holds j u hj))
    have hr := run_append_grow_src (P := Tryz.prog) w 22 9 ty 5 i _ ht hi hz (some ⟨g, 0, none⟩) l.length cap (cb l) hold _ m.length (cb m) hs (by omega) (by omega) (growslice_fits (by omega) (by rw [hby]; omega))
    have hge := grownCap_ge w (l.length + m.length) cap 5
    have hcm2 : grownCap w (l.length + m.length) cap 5 ≤ maxLen := grownCap_le_maxLen w _ cap _ (by unfold maxLen; omega)
    refine ⟨_, _, hr, ⟨w.heap.size, _, _, (0, 0), by rw [List.length_append], hB, heap_alloc_new w.drew _, .inl rfl, by rw [List.length_append]; exact hge, hcm2, ?_, ?_⟩, Below.alloc (Below.drew (Below.refl B w)) hB _⟩
    · simp only [Array.size_append, List.size_toArray, size_zeroCells, hlen]
      simp [Value.cells]
      omega
    · simp only [Array.toList_append, cb_append, List.length_append]
      rw [← hlen]
      exact List.take_left
theorem wpList_appsM {ops : Array Oper} {rest : List Oper} {o : Oper} {a : Act} {w : World} {Q : Exit → Act → World → Prop} (hgd : o.guard = none) (s x : Operand)
    (ho : o.op = .call { callee := .builtin .append, args := #[s, x], argTypes := #[22, 9] }) (B : Nat) (v : Value) (l m : List UInt8) (hs : a.eval s = v) (hown : OwnM w B v l)
    (hx : a.eval x = .string ⟨m.toArray⟩) (hn : l.length + m.length ≤ 140737488355328) (hB : B ≤ w.heap.size)
    (h : ∀ v' w', OwnM w' B v' (l ++ m) → Below B w w' → wpList Tryz.prog ops Q rest (a.put o.dst v') w') : wpList Tryz.prog ops Q (o :: rest) a w := by
  refine wpList_plain hgd fun K hK => ?_
  obtain ⟨v', w', hr, h2, h3⟩ := run_app_strM m o.type hown hn hB
  unfold Oper.wp execOp
  simp only [ho, resolve, invoke, builtin, Sem.run_bind, Sem.run_pure, Result.andThen_ok, List.map_toArray, List.map_cons, List.map_nil, hs, hx, hr]
  exact hK _ _ (h v' w' h2 h3)
/-- a text made to bytes -/
theorem conv_str (w : World) (t : ByteArray) (ht : t.size ≤ 140737488355328) : ∃ v w', (convert 9 22 (.string t)).run Tryz.prog w = .ok v w' ∧ OwnM w' w.heap.size v t.data.toList ∧ Up w w' := by
  have hge := grownCap_ge w t.size 0 5
  have hcm : grownCap w t.size 0 5 ≤ maxLen := grownCap_le_maxLen w _ 0 _ (by unfold maxLen; omega)
  have hc : (Go.Lib.bytesCells w 5 t).size = grownCap w t.size 0 5 := by
    simp only [Go.Lib.bytesCells, Array.size_append, Array.size_map, Array.size_replicate]
    have : t.data.size = t.size := rfl
    omega
  refine ⟨_, _, Go.Lib.run_convert_string_bytes (P := Tryz.prog) w 9 22 5 t Tryz.underlying9 Tryz.underlying22 Tryz.underlying5, ⟨w.heap.size, _, Go.Lib.bytesCells w 5 t, _, by rw [← Go.Lib.size_eq], Nat.le_refl _, Go.Lib.bytesWorld_at_new w 5 t, .inr (by rw [hc]; exact Nat.le_refl _), by rw [← Go.Lib.size_eq]; exact hge, hcm, hc, ?_⟩, ⟨rfl, rfl, rfl, by rw [Go.Lib.bytesWorld_size]; omega, fun j hj => Go.Lib.bytesWorld_at_old w 5 t j hj⟩⟩
  simp only [Go.Lib.bytesCells, Array.toList_append, Array.toList_map]
  have : (t.data.toList.map fun b => Value.int .u8 (b.toNat : Int)) = cb t.data.toList := rfl
  rw [this, show t.data.toList.length = (cb t.data.toList).length by rw [cb_length]]
  exact List.take_left
theorem wpList_conv {ops : Array Oper} {rest : List Oper} {o : Oper} {a : Act} {w : World} {Q : Exit → Act → World → Prop} (hgd : o.guard = none) (s : Operand)
    (ho : o.op = .convert 9 22 s) (t : ByteArray) (ht : t.size ≤ 140737488355328) (hs : a.eval s = .string t)
    (h : ∀ v' w', OwnM w' w.heap.size v' t.data.toList → Up w w' → wpList Tryz.prog ops Q rest (a.put o.dst v') w') : wpList Tryz.prog ops Q (o :: rest) a w := by
  refine wpList_plain hgd fun K hK => ?_
  obtain ⟨v', w', hr, h2, h3⟩ := conv_str w t ht
  unfold Oper.wp execOp
  simp only [ho, Sem.run_bind, Sem.run_pure, Result.andThen_ok, hs, hr]
  exact hK _ _ (h v' w' h2 h3)
end Go.Proofs.YtaphjbcnnkoffaaGreatDoor
namespace Go.Proofs.YtaphjbcnnkoffaaGreatDoor
open Go.RowKit TextNum
/-- a list of one's own in the midst of a block, which may bear a mark behind the list's room -/
def OwnN (w : World) (B : Nat) (v : Value) (l : List UInt8) : Prop := ∃ g off cap cur fr, v = .slice (some ⟨g, off, none⟩) l.length cap ∧ B ≤ g ∧ w.heap[g]? = some (.cells cur 5 fr) ∧ (fr.2 = 0 ∨ off + cap ≤ fr.1) ∧ l.length ≤ cap ∧ cap ≤ maxLen ∧ off + cap ≤ cur.size ∧ ∀ i (h : i < l.length), cur[off + i]? = some (.int .u8 (l[i].toNat : Int))
theorem OwnM.n {w : World} {B : Nat} {v : Value} {l : List UInt8} (h : OwnM w B v l) : OwnN w B v l := by
  obtain ⟨g, cap, cur, fr, e, hB, hg, hfr, hl, hc, hs, ht⟩ := h
  refine ⟨g, 0, cap, cur, fr, e, hB, hg, by rw [Nat.zero_add]; exact hfr, hl, hc, by omega, fun i hi => ?_⟩
  have := cb_get hi
  rw [← ht, List.getElem?_take, if_pos hi] at this
  rw [Nat.zero_add]
  simpa using this
theorem OwnN.sl {w : World} {B : Nat} {v : Value} {l : List UInt8} (h : OwnN w B v l) : Sl w v l := by
  obtain ⟨g, off, cap, cur, fr, rfl, hB, hg, hfr, hl, hc, hs, ht⟩ := h
  exact ⟨_, cap, rfl, hl, .inr ⟨g, off, rfl, (Array.getElem?_eq_some_iff.1 hg).1, fun i hi => by rw [cell_of_row w g (off + i) cur _ fr hg]; exact ht i hi⟩⟩
theorem OwnN.by {w w' : World} {B : Nat} {v : Value} {l : List UInt8} {row : Option Nat} (h : OwnN w B v l) (hg : w.grownBy w' row) (hr : ∀ r, row = some r → v.ownBlock ≠ some r) : OwnN w' B v l := by
  obtain ⟨g, off, cap, cur, fr, rfl, hB, hgg, r⟩ := h
  refine ⟨g, off, cap, cur, fr, rfl, hB, ?_, r⟩
  rw [hg.block g (Array.getElem?_eq_some_iff.1 hgg).1 (fun e => hr g e.symm rfl)]
  exact hgg
theorem OwnN.up {w w' : World} {B : Nat} {v : Value} {l : List UInt8} (h : OwnN w B v l) (k : Up w w') : OwnN w' B v l := by
  obtain ⟨g, off, cap, cur, fr, rfl, hB, hgg, r⟩ := h
  refine ⟨g, off, cap, cur, fr, rfl, hB, ?_, r⟩
  rw [k.block g (Array.getElem?_eq_some_iff.1 hgg).1]
  exact hgg
theorem OwnN.lt {w : World} {B : Nat} {v : Value} {l : List UInt8} (h : OwnN w B v l) : ∀ b, v.ownBlock = some b → B ≤ b ∧ b < w.heap.size := by
  obtain ⟨g, off, cap, cur, fr, rfl, hB, hgg, r⟩ := h
  intro b hb
  injection hb with hb
  subst hb
  exact ⟨hB, (Array.getElem?_eq_some_iff.1 hgg).1⟩
theorem OwnN.len {w : World} {B : Nat} {v : Value} {l : List UInt8} (h : OwnN w B v l) : ∃ g off c, v = .slice (some ⟨g, off, none⟩) l.length c := by
  obtain ⟨g, off, cap, cur, fr, e, _⟩ := h
  exact ⟨g, off, cap, e⟩
theorem grown_setB (w : World) (p : Addr) (v : Value) : w.grownBy (w.setCell p v) (some p.block) := ⟨rfl, rfl, rfl, by simp, fun k _ hk => by
  have hne : ¬ p.block = k := fun e => hk (by rw [e])
  simp only [World.setCell]
  split <;> simp [Array.getElem?_modify, hne]⟩
theorem Own.n {w : World} {B : Nat} {v : Value} {l : List UInt8} (h : Own w B v l) (hl : l ≠ []) : OwnN w B v l := by
  have h0 := h
  rcases h.2 with ⟨_, e⟩ | ⟨g, cap, cur, e, hB, hg, hnc, hcm, hs, ht⟩
  · exact absurd (List.length_eq_zero_iff.1 e) hl
  · refine ⟨g, 0, cap, cur, (0, 0), e, hB, hg, .inl rfl, hnc, hcm, by omega, fun i hi => ?_⟩
    have := cb_get hi
    rw [← ht, List.getElem?_take, if_pos (by omega)] at this
    rw [Nat.zero_add]
    simpa using this
theorem OwnN.drop {w : World} {B g off n c k : Nat} {l : List UInt8} (h : OwnN w B (.slice (some ⟨g, off, none⟩) n c) l) (hk : k < l.length) : OwnN w B (sliced (some ⟨g, off, none⟩) k n c 1) (l.drop k) := by
  obtain ⟨g', off', cap', cur, fr, e, hB, hg, hfr, hl, hc, hs, ht⟩ := h
  injection e with e1 e2 e3
  injection e1 with e1
  injection e1 with e1 e4 _
  subst e1 e4 e3 e2
  unfold sliced
  rw [if_neg (by omega), Option.map_some, Nat.mul_one, add_plain]
  refine ⟨g, off + k, c - k, cur, fr, by rw [List.length_drop], hB, hg, by omega, by rw [List.length_drop]; omega, by omega, by omega, fun i hi => ?_⟩
  rw [List.length_drop] at hi
  rw [List.getElem_drop, Nat.add_assoc]
  exact ht (k + i) (by omega)
theorem grown_setC (w : World) (b : Nat) : ∀ (vs : List Value) (o : Nat) (w' : World), w.grownBy w' (some b) → w.grownBy (w'.setCells b o vs) (some b)
  | [], _, _, h => h
  | v :: r, o, w', h => grown_setC w b r (o + 1) (w'.setCell ⟨b, o, none⟩ v) (by
    have k := grown_setB w' ⟨b, o, none⟩ v
    exact ⟨k.os.trans h.os, k.tape.trans h.tape, k.output.trans h.output, Nat.le_trans h.size k.size, fun i hi hr => (k.block i (Nat.lt_of_lt_of_le hi h.size) hr).trans (h.block i hi hr)⟩)
theorem OwnN.setC {w : World} {B : Nat} {v : Value} {l : List UInt8} {b o : Nat} {vs : List Value} (h : OwnN w B v l) (hne : v.ownBlock ≠ some b) : OwnN (w.setCells b o vs) B v l :=
  h.by (grown_setC w b vs o w ⟨rfl, rfl, rfl, Nat.le_refl _, fun _ _ _ => rfl⟩) (fun r hr => by injection hr with hr; rw [← hr]; exact hne)
/-- a byte is written -/
theorem OwnN.store {w : World} {B : Nat} {g off n cap : Nat} {l : List UInt8} (h : OwnN w B (.slice (some ⟨g, off, none⟩) n cap) l) (i : Nat) (hi : i < l.length) (x : UInt8) :
    w.cell? ⟨g, off + i, none⟩ = some (.int .u8 (l[i].toNat : Int)) ∧ w.frozen? ⟨g, off + i, none⟩ = false ∧ OwnN (w.setCell ⟨g, off + i, none⟩ (.int .u8 (x.toNat : Int))) B (.slice (some ⟨g, off, none⟩) n cap) (l.set i x) := by
  obtain ⟨g', off', cap', cur, fr, e, hB, hg, hfr, hl, hc, hs, ht⟩ := h
  injection e with e1 e2 e3
  injection e1 with e1
  injection e1 with e1 e4 _
  subst e1 e4 e3 e2
  refine ⟨by rw [cell_of_row w g (off + i) cur _ fr hg]; exact ht i hi, ?_, g, off, cap, cur.setIfInBounds (off + i) (.int .u8 (x.toNat : Int)), fr, by rw [List.length_set], hB, ?_, hfr, by rw [List.length_set]; exact hl, hc, by simpa using hs, fun j hj => ?_⟩
  · obtain ⟨lo, hi'⟩ := fr
    simp only [World.frozen?, hg, Bool.and_eq_false_iff, decide_eq_false_iff_not]
    simp only at hfr
    omega
  · rw [setCell_eq_setRow w g (off + i) cur _ fr _ hg]
    exact setRow_heap w g cur _ _ _ hg
  · rw [List.length_set] at hj
    rw [Array.getElem?_setIfInBounds, List.getElem_set]
    by_cases hij : i = j
    · subst hij
      rw [if_pos rfl, if_pos (by omega), if_pos rfl]
    · rw [if_neg (by omega), if_neg hij]
      exact ht j hj
/-- a byte is appended: the old list reads as it did -/
theorem run_app_N {w : World} {B : Nat} {v : Value} {l : List UInt8} (x : UInt8) (ty : TypeId) (hown : OwnN w B v l) (ad : Addr) (c : Nat) (hx : w.cell? ad = some (.int .u8 (x.toNat : Int))) (hn : l.length < 1099511627776) :
    ∃ v' w', (Builtin.append_ #[22, 22] ty #[v, .slice (some ad) 1 c]).run Tryz.prog w = .ok v' w' ∧ Sl w' v' (l ++ [x]) ∧ Sl w' v l ∧ w.grownBy w' v.ownBlock ∧ ∀ b, v'.ownBlock = some b → (v.ownBlock = some b ∨ w.heap.size ≤ b) ∧ b < w'.heap.size := by
  obtain ⟨i, hi, hz, hsize, hby⟩ := info_parts Tryz.info8
  have ht : Tryz.prog.underlying 22 = some (.slice 5) := Tryz.underlying22
  have hadd0 : ad.add 0 = ad := by obtain ⟨b, o, sp⟩ := ad; unfold Addr.add; split <;> simp_all
  have hs : Src Tryz.prog i.size 22 (.slice (some ad) 1 c) 1 [.int .u8 (x.toNat : Int)] w := Src.ofSlice w ht ad 1 c _ (by rw [hsize]; rfl) (fun j u hj => by
    match j, hj with
    | 0, hj => simp at hj; rw [hadd0, hx, hj]) (fun u hu => by simp at hu; subst hu; rfl)
  have hsl := hown.sl
  obtain ⟨g, off, cap, cur, fr, rfl, hB, hg, hfr, hl, hc, hsz, hcell⟩ := hown
  have hcw : ∀ j (h : j < l.length), w.cell? ⟨g, off + j, none⟩ = some (.int .u8 (l[j].toNat : Int)) := fun j h => by rw [cell_of_row w g (off + j) cur _ fr hg]; exact hcell j h
  have hglt : g < w.heap.size := (Array.getElem?_eq_some_iff.1 hg).1
  by_cases hroom : l.length + 1 ≤ cap
  · have hr := run_append_room_src (P := Tryz.prog) w 22 22 ty 5 i ht hi g off l.length cap _ 1 _ hs hroom (fun j hj => by
      have hj0 : j = 0 := by simpa using hj
      subst hj0
      rw [hsize, Nat.mul_one, Nat.add_zero, cell_of_row w g (off + l.length) cur _ fr hg, Array.getElem?_eq_getElem (by omega)]
      rfl) (fun j hj => by
      have hj0 : j = 0 := by simpa using hj
      subst hj0
      rw [hsize, Nat.mul_one, Nat.add_zero]
      obtain ⟨lo, hi'⟩ := fr
      simp only [World.frozen?, hg, Bool.and_eq_false_iff, decide_eq_false_iff_not]
      simp only at hfr
      omega)
    rw [hsize, Nat.mul_one] at hr
    have hold : ∀ j (h : j < l.length), (w.setCells g (off + l.length) [.int .u8 (x.toNat : Int)]).cell? ⟨g, off + j, none⟩ = some (.int .u8 (l[j].toNat : Int)) := fun j h => (World.cell?_setCells_out _ _ _ _ _ (fun _ _ => .inl (by simp only; omega))).trans (hcw j h)
    have hnew : (w.setCells g (off + l.length) [.int .u8 (x.toNat : Int)]).cell? ⟨g, off + l.length, none⟩ = some (.int .u8 (x.toNat : Int)) := by
      show (w.setCell ⟨g, off + l.length, none⟩ _).cell? _ = _
      rw [setCell_eq_setRow w g (off + l.length) cur _ fr _ hg, cell_of_row _ g (off + l.length) _ _ fr (setRow_heap w g cur _ _ _ hg), Array.getElem?_setIfInBounds, if_pos rfl, if_pos (by omega)]
    have hz2 : (w.setCells g (off + l.length) [.int .u8 (x.toNat : Int)]).heap.size = w.heap.size := by
      show (w.setCell ⟨g, off + l.length, none⟩ _).heap.size = _
      simp
    refine ⟨_, _, hr, ⟨_, cap, by rw [List.length_append]; rfl, by rw [List.length_append]; exact hroom, .inr ⟨g, off, rfl, by rw [hz2]; exact hglt, fun j hj => ?_⟩⟩, ⟨_, cap, rfl, hl, .inr ⟨g, off, rfl, by rw [hz2]; exact hglt, hold⟩⟩, grown_setB w ⟨g, off + l.length, none⟩ _, fun b hb => ?_⟩
    · rcases Nat.lt_or_ge j l.length with h | h
      · rw [List.getElem_append_left h]; exact hold j h
      · have hj2 : j = l.length := by rw [List.length_append] at hj; simp at hj; omega
        subst hj2
        rw [List.getElem_append_right (Nat.le_refl _)]
        simpa using hnew
    · injection hb with hb
      exact ⟨.inl (by rw [← hb]; rfl), by rw [hz2, ← hb]; exact hglt⟩
  · have hold := run_firstCells_some (P := Tryz.prog) w.drew i.size l.length ⟨g, off, none⟩ l.length cap (cb l) (by rw [hsize, cb_length, Nat.mul_one]) (fun j u hj => by
      have hjl : j < l.length := by have := (List.getElem?_eq_some_iff.1 hj).1; rwa [cb_length] at this
      rw [cb_get hjl] at hj
      rw [add_plain, ← hj]
      exact (World.cell?_drew _ _).trans (hcw j hjl))
    have hr := run_append_grow_src (P := Tryz.prog) w 22 22 ty 5 i _ ht hi hz (some ⟨g, off, none⟩) l.length cap (cb l) hold _ 1 _ hs (by omega) (by omega) (growslice_fits (by omega) (by rw [hby]; omega))
    have hge := grownCap_ge w (l.length + 1) cap 5
    have hup : ∀ o, Up w (w.drew.alloc o) := fun o => ((Up.refl w).drew).alloc o
    refine ⟨_, _, hr, ⟨_, _, by rw [List.length_append]; rfl, by rw [List.length_append]; exact hge, .inr ⟨w.heap.size, 0, rfl, by rw [World.alloc]; simp, fun j hj => ?_⟩⟩, hsl.up (hup _), ⟨rfl, rfl, rfl, by simp, fun k hk _ => heap_alloc_old w.drew _ hk⟩, fun b hb => ?_⟩
    · rw [cell_of_row _ w.heap.size (0 + j) _ _ _ (heap_alloc_new w.drew _), Nat.zero_add]
      have hcl : (cb l ++ [Value.int .u8 (x.toNat : Int)])[j]? = some (.int .u8 ((l ++ [x])[j].toNat : Int)) := by
        rw [show cb l ++ [Value.int .u8 (x.toNat : Int)] = cb (l ++ [x]) by rw [cb_append]; rfl]
        exact cb_get hj
      have hj3 : j < (cb l ++ [Value.int .u8 (x.toNat : Int)]).length := (List.getElem?_eq_some_iff.1 hcl).1
      rw [← Array.getElem?_toList, Array.toList_append, List.getElem?_append_left (by simpa using hj3)]
      simpa using hcl
    · injection hb with hb
      exact ⟨.inr (Nat.le_of_eq hb), by rw [← hb, World.alloc]; simp⟩
theorem wpList_appN {ops : Array Oper} {rest : List Oper} {o : Oper} {a : Act} {w : World} {Q : Exit → Act → World → Prop} (hgd : o.guard = none) (s x : Operand)
    (ho : o.op = .call { callee := .builtin .append, args := #[s, x], argTypes := #[22, 22] }) (B : Nat) (v : Value) (l : List UInt8) (y : UInt8) (hs : a.eval s = v) (hown : OwnN w B v l)
    (ad : Addr) (c : Nat) (hx : a.eval x = .slice (some ad) 1 c) (hc : w.cell? ad = some (.int .u8 (y.toNat : Int))) (hn : l.length < 1099511627776)
    (h : ∀ v' w', Sl w' v' (l ++ [y]) → Sl w' v l → w.grownBy w' v.ownBlock → (∀ b, v'.ownBlock = some b → (v.ownBlock = some b ∨ w.heap.size ≤ b) ∧ b < w'.heap.size) → wpList Tryz.prog ops Q rest (a.put o.dst v') w') : wpList Tryz.prog ops Q (o :: rest) a w := by
  refine wpList_plain hgd fun K hK => ?_
  obtain ⟨v', w', hr, h2, h3, h4, h5⟩ := run_app_N y o.type hown ad c hc hn
  unfold Oper.wp execOp
  simp only [ho, resolve, invoke, builtin, Sem.run_bind, Sem.run_pure, Result.andThen_ok, List.map_toArray, List.map_cons, List.map_nil, hs, hx, hr]
  exact hK _ _ (h v' w' h2 h3 h4 h5)
end Go.Proofs.YtaphjbcnnkoffaaGreatDoor
namespace Go.Proofs.YtaphjbcnnkoffaaGreatDoor
open Go.RowKit Go.Shelf TextNum
set_option maxRecDepth 100000 in
theorem slCut_walkB (s : ByteArray) (hs : s.size ≤ 1048576) (c : UInt8) (w : World) : Calls Tryz.prog 123 #[.string s, .string ⟨#[c]⟩] w fun e w' => e = .returned (.tuple #[.string ⟨(Go.Lib.cut s.data.toList [c]).1.toArray⟩, .string ⟨(Go.Lib.cut s.data.toList [c]).2.1.toArray⟩, .bool (Go.Lib.cut s.data.toList [c]).2.2]) ∧ ∃ n, w' = w.drewN n := by
  have hix : Go.Lib.indexB s ⟨#[c]⟩ = Go.Lib.indexByte s.data.toList c := Go.Lib.index_one _ _
  have L : Lays.n219 Tryz.prog Tryz.lays145_ren := { Tryz.lays145 with }
  rcases Go.Lib.indexB_cases s ⟨#[c]⟩ with hx | ⟨i, hx, hroom⟩
  · obtain ⟨e1, e2, e3⟩ := Go.Lib.cutB_miss s ⟨#[c]⟩ hx
    rw [hix] at hx
    rw [show [c] = (⟨#[c]⟩ : ByteArray).data.toList from rfl, e1, e2, e3]
    clear e1 e2 e3 hix
    go_enter Tryz.func123, Tryz.ntmps123
    go_wp2_with fail
    refine (Any.stringslite_Index_one L s c w).mono ?_
    rintro e w' ⟨rfl, rfl⟩
    rw [hx]
    dsimp only
    go_wp2
    go_ret3
    exact ⟨rfl, 0, rfl⟩
  · obtain ⟨e1, e2, e3⟩ := Go.Lib.cutB_hit s ⟨#[c]⟩ i hx
    rw [hix] at hx
    rw [show [c] = (⟨#[c]⟩ : ByteArray).data.toList from rfl, e1, e2, e3]
    have hr : i + 1 ≤ s.size := hroom
    have c1 : (0 : Int) ≤ ↑i := by omega
    have c2 : (↑i : Int) ≤ ↑s.size := by omega
    have c3 : (0 : Int) ≤ ↑i + 1 := by omega
    have c4 : (↑i + 1 : Int) ≤ ↑s.size := by omega
    have c5 : IntKind.i64.wrap ((i : Int) + 1) = (i : Int) + 1 := by
      simp only [IntKind.wrap, IntKind.signed, IntKind.bits]
      simp
      omega
    have mixed := L.mixed
    clear e1 e2 e3 hix hroom
    go_enter Tryz.func123, Tryz.ntmps123
    go_wp2_with fail
    refine (Any.stringslite_Index_one L s c w).mono ?_
    rintro e w' ⟨rfl, rfl⟩
    rw [hx]
    dsimp only
    go_wp2
    go_region_o
    go_wp2
    go_ret3
    exact ⟨rfl, 1, rfl⟩
set_option maxRecDepth 100000 in
theorem Cut1_walkB (s : ByteArray) (hs : s.size ≤ 1048576) (c : UInt8) (w : World) : Calls Tryz.prog 90 #[.string s, .string ⟨#[c]⟩] w fun e w' => e = .returned (.tuple #[.string ⟨(Go.Lib.cut s.data.toList [c]).1.toArray⟩, .string ⟨(Go.Lib.cut s.data.toList [c]).2.1.toArray⟩, .bool (Go.Lib.cut s.data.toList [c]).2.2]) ∧ ∃ n, w' = w.drewN n := by
  go_enter Tryz.func90, Tryz.ntmps90
  go_wp2_with fail
  refine (slCut_walkB s hs c w).mono ?_
  rintro e w' ⟨rfl, n, rfl⟩
  dsimp only
  go_wp2
  go_ret3
  exact ⟨rfl, n, rfl⟩
end Go.Proofs.YtaphjbcnnkoffaaGreatDoor
namespace Go.Proofs.YtaphjbcnnkoffaaGreatDoor
open Go.RowKit Go.Shelf TextNum
attribute [local go_sem] Oper.semAt_some
def szOfB : Value → Nat
  | .string s => s.size
  | _ => 0
theorem szOf_strB (l : List UInt8) : szOfB (.string ⟨l.toArray⟩) = l.length := by simp [szOfB, ByteArray.size]
theorem str_lenB (l : List UInt8) : (⟨l.toArray⟩ : ByteArray).size = l.length := by simp [ByteArray.size]
set_option maxRecDepth 100000 in
theorem each_inB (s : ByteArray) (w : World) : Calls Tryz.prog 78 #[.string s] w fun e w' => e = .returned (.func (.func 108) #[] #[.pointer (some ⟨w.heap.size, 0, none⟩)]) ∧ w' = w.alloc (.cells #[.string s] 9) := by
  go_enter Tryz.func78, Tryz.ntmps78
  go_wp2
  go_ret
  exact ⟨rfl, rfl⟩

set_option maxRecDepth 100000 in
set_option maxHeartbeats 1000000 in
theorem each1_inB (n : Nat) (hn : 1 ≤ n) (l Bs n₀ : Nat) (s : ByteArray) (hs : s.size ≤ 1048576) (J Jx : List (Nat × List UInt8) → World → Prop)
    (hA : ∀ xs W q, J xs W → J xs (World.drewN W q))
    (hY : ∀ pre x W, J pre W → pre.length < (linesOf s.data.toList).length → YieldAt Fence.wide (n - 1) Tryz.prog l #[.int .i64 ((x : Nat × List UInt8).1 : Int), .string ⟨x.2.toArray⟩] W fun e W' =>
      (e = .returned (.bool true) ∧ J (pre ++ [x]) W' ∧ Below n₀ W W') ∨ (e = .returned (.bool false) ∧ Jx (pre ++ [x]) W'))
    (W : World) (hBs : W.cell? ⟨Bs, 0, none⟩ = some (.string s)) (h0 : J [] W) :
    CallsIn Fence.wide n Tryz.prog 108 #[.func (.yield l) #[] #[], .pointer (some ⟨Bs, 0, none⟩)] W fun e W' => (∃ v, e = .returned v) ∧
      ((∃ ys, ys = ixs 0 (linesOf s.data.toList) ∧ J ys W') ∨ (∃ pre, True ∧ Jx pre W')) := by
  refine callsIn_of_wp Tryz.func108 rfl trivial ?_ rfl
  simp only [Tryz.ntmps108, List.size_toArray, List.length_cons, List.length_nil, Nat.reduceAdd, Nat.reduceSub, Array.replicate_succ, Array.replicate_zero, List.push_toArray, List.append_toArray, List.nil_append, List.cons_append]
  have HS := Hid.of hs
  gi_wp2_with fail
  refine ⟨trivial, ?_⟩
  refine (callsIn_wide.2 (tooLongP_walk s W)).mono ?_
  rintro e w' ⟨rfl, hw⟩
  obtain rfl := hw.symm
  rw [decide_eq_false (by omega : ¬ 1048576 < s.size)]
  dsimp only
  gi_wp2
  gi_loopw [3, 4] (fun v3 v4 wr => ∃ (pre : List (Nat × List UInt8)) (r : List UInt8), v3 = .string ⟨r.toArray⟩ ∧ v4 = .int .i64 (pre.length : Int) ∧ Hid (ixs 0 (linesOf s.data.toList) = pre ++ ixs pre.length (linesOf r) ∧ r.length ≤ 1048576 ∧ pre.length + r.length ≤ 1048576 ∧ J pre wr))
    (fun v3 _ _ => szOfB v3)
  case atStart =>
    refine ⟨[], s.data.toList, rfl, rfl, rfl, ?_, ?_, h0⟩
    · rw [← Go.Lib.size_eq]; exact HS.out
    · rw [← Go.Lib.size_eq]; simpa using HS.out
  case round =>
    obtain ⟨pre, r, rfl, rfl, hI⟩ := hrel
    by_cases hr : r = []
    · subst hr
      gi_wp2
      go_end0
      exact ⟨⟨_, rfl⟩, .inl ⟨pre, by have := hI.out.1; simpa [linesOf, lns, ixs] using this.symm, hI.out.2.2.2⟩⟩
    · have e0 : r.isEmpty = false := by
        cases r with
        | nil => exact absurd rfl hr
        | cons a b => rfl
      have HR := Hid.of (And.intro hr (tail_lt hr))
      clear hr
      gi_wp2_with fail
      refine ⟨trivial, ?_⟩
      refine (callsIn_wide.2 (Cut1_walkB ⟨r.toArray⟩ (by rw [str_lenB]; exact hI.out.2.1) 10 wr)).mono ?_
      rintro e w2 ⟨rfl, q, rfl⟩
      dsimp only
      rw [(cut_ten r).1, (cut_ten r).2]
      have hcons := linesOf_cons HR.out.1
      have hlt2 := HR.out.2
      generalize r.takeWhile (· != 10) = a at *
      generalize (r.dropWhile (· != 10)).drop 1 = b at *
      have hix : ixs 0 (linesOf s.data.toList) = (pre ++ [(pre.length, a)]) ++ ixs (pre.length + 1) (linesOf b) := by
        rw [hI.out.1, hcons]; simp [ixs]
      have hple : pre.length < (linesOf s.data.toList).length := by
        have := congrArg List.length hix
        rw [ixs_len] at this
        rw [this]; simp
      obtain ⟨fn, tmps, assign, body, hy, hR⟩ := hY pre (pre.length, a) (World.drewN wr q) (hA _ _ _ hI.out.2.2.2) hple
      dsimp only at hy hR
      have HD := Hid.of (And.intro hix (And.intro hlt2 hI.out.2.2.1))
      have hwp : IntKind.i64.wrap ((pre.length : Int) + 1) = (pre.length : Int) + 1 := by
        have := hI.out.2.2.1
        simp only [IntKind.wrap, IntKind.signed, IntKind.bits]
        simp
        omega
      clear hix hlt2 hcons hple hI HR
      generalize hpl : pre.length = k at *
      have HPL := Hid.of hpl
      clear hpl
      gi_wp2
      refine hR.mono ?_
      rintro e W3 (⟨rfl, hJ3, hk3⟩ | ⟨rfl, hJx3⟩)
      · have HJ := Hid.of (And.intro hJ3 hk3)
        clear hJ3 hk3
        gi_wp2
        go_roundw
        case rel =>
          refine ⟨pre ++ [(k, a)], b, rfl, ?_, ?_, ?_, ?_, HJ.out.1⟩
          · simp [HPL.out]
          · rw [HD.out.1]; simp [HPL.out]
          · have := HD.out.2; omega
          · have := HD.out.2; have := HPL.out; simp; omega
        case measure => rw [szOf_strB, szOf_strB]; exact HD.out.2.1
      · have HJ := Hid.of hJx3
        clear hJx3
        gi_wp2
        refine bodyPost_ret (results_none rfl _ _ _) rfl ?_
        exact ⟨⟨_, rfl⟩, .inr ⟨_, trivial, HJ.out⟩⟩
theorem each_stopsB (n : Nat) (hn : 1 ≤ n) (Bs n₀ : Nat) (s : ByteArray) (hs : s.size ≤ 1048576) (w : World) (hB : Bs < w.heap.size) (hc : w.cell? ⟨Bs, 0, none⟩ = some (.string s)) :
    SeqStopsK Fence.wide n Tryz.prog 108 #[.pointer (some ⟨Bs, 0, none⟩)] (fun x : Nat × List UInt8 => #[Value.int .i64 (x.1 : Int), .string ⟨x.2.toArray⟩]) (Below n₀) (fun ys => ys = ixs 0 (linesOf s.data.toList)) (fun _ => True) (linesOf s.data.toList).length w := fun l J Jx W hW hA _ hY h0 =>
  each1_inB n hn l Bs n₀ s hs J Jx (fun xs W' q hj => hA xs W' _ none hj ⟨rfl, rfl, rfl, Nat.le_refl _, fun _ _ _ => rfl⟩ (fun r e => by cases e)) hY W ((hW.cell (p := ⟨Bs, 0, none⟩) hB).trans hc) h0
/-- a list of texts of one's own -/
def OwnSB (w : World) (B : Nat) (v : Value) (xs : List (List UInt8)) : Prop := w.ownsRow B 9 1 v xs.length (xs.map fun l => Value.string ⟨l.toArray⟩)
theorem Tryz.infoStrB : (Tryz.prog.info? 9).map (fun i => (i.zero, i.size, i.bytes)) = some (some (.string ⟨#[]⟩), 1, 16) := by kernel_rfl

theorem szeroB {s : ByteArray} (h : s.size = 0) : s = ⟨#[]⟩ := by
  obtain ⟨d⟩ := s
  have : d.size = 0 := h
  rw [Array.size_eq_zero_iff] at this
  subst this; rfl
theorem enoB {s : ByteArray} (h : ¬ s.size = 0) : s.toList.isEmpty = false := by
  rw [Go.Lib.toList_data]
  cases hh : s.data.toList with
  | nil => rw [Go.Lib.size_eq, hh] at h; simp at h
  | cons a b => rfl
theorem suf_tenB (l : List UInt8) : Go.Lib.hasSuffix l [10] = decide (l.getLast? = some 10) := by
  rw [Bool.eq_iff_iff, decide_eq_true_eq]
  unfold Go.Lib.hasSuffix
  rw [List.isSuffixOf_iff_suffix]
  constructor
  · rintro ⟨t, rfl⟩; simp
  · intro h
    obtain ⟨t, ht⟩ := List.getLast?_eq_some_iff.1 h
    exact ⟨t, ht.symm⟩

set_option maxRecDepth 100000 in
set_option maxHeartbeats 1000000 in
theorem Lines_mainB (s : ByteArray) (hs : s.size ≤ 1048576) (he : s.data.toList = [] ∨ s.data.toList.getLast? = some 10) (w : World) : Calls Tryz.prog 50 #[.string s] w fun e w' => ∃ v, e = .returned (.tuple #[v, .int .i64 0]) ∧ OwnSB w' w.heap.size v (linesOf s.data.toList) ∧ Up w w' := by
  refine (callsIn_wide (n := 4)).1 ?_
  refine callsIn_of_wp_marks Tryz.func50 rfl trivial ?_ rfl
  simp only [Tryz.ntmps50, List.size_toArray, List.length_cons, List.length_nil, Nat.reduceAdd, Nat.reduceSub, Array.replicate_succ, Array.replicate_zero, List.push_toArray, List.append_toArray, List.nil_append, List.cons_append]
  have HS := Hid.of (And.intro hs he)
  clear he
  gi_wp2_with fail
  refine ⟨trivial, ?_⟩
  refine (callsIn_wide.2 (tooLongP_walk s w)).mono ?_
  rintro e w' ⟨rfl, hw⟩
  obtain rfl := hw.symm
  rw [decide_eq_false (by omega : ¬ 1048576 < s.size)]
  dsimp only
  by_cases h0 : s.size = 0
  · obtain rfl := szeroB h0
    gi_wp2_with fail
    refine ⟨trivial, ?_⟩
    gi_wp2_with fail
    refine ⟨trivial, ?_⟩
    refine (callsIn_wide.2 (Any.strings_Count_one Tryz.lays138 ⟨#[]⟩ 10 w)).mono ?_
    rintro e w' ⟨rfl, hw⟩
    obtain rfl := hw.symm
    dsimp only
    have hcnt : Go.Lib.countByte (⟨#[]⟩ : ByteArray).data.toList 10 ≤ 1048576 := by
      have h1 : Go.Lib.countByte (⟨#[]⟩ : ByteArray).data.toList 10 ≤ (⟨#[]⟩ : ByteArray).data.toList.length := List.count_le_length
      rw [← Go.Lib.size_eq] at h1
      omega
    generalize Go.Lib.countByte (⟨#[]⟩ : ByteArray).data.toList 10 = cn at *
    obtain ⟨i0, hi, hz0, hz1, hz2⟩ := info_parts Tryz.infoStrB
    gi_wp2_with (gi_at_make; refine wpListIn_make_own _ rfl _ _ 57 rfl w.heap.size 9 i0 (.string ⟨#[]⟩) 1 Tryz.underlying57 hi hz0 hz1 .i64 .i64 _ cn rfl rfl rfl (by rw [hz2]; omega) (by unfold maxLen; omega) (Nat.le_refl _) ?_; intro w1 hown hgrow)
    refine ⟨trivial, ?_⟩
    refine (callsIn_wide.2 (each_inB ⟨#[]⟩ _)).mono ?_
    rintro e w' ⟨rfl, hw⟩
    obtain rfl := hw.symm
    dsimp only
    have hw1 : w.heap.size ≤ w1.heap.size := hgrow.size
    have bO := Boxed.new w1 57 (.slice (some ⟨w.heap.size, 0, none⟩) 0 cn)
    have bN := Boxed.new (w1.alloc (.cells #[.slice (some ⟨w.heap.size, 0, none⟩) 0 cn] 57)) 9 (.string ⟨#[]⟩)
    rw [World.size_alloc] at bN
    have hB0 : Below w.heap.size w ((w1.alloc (.cells #[.slice (some ⟨w.heap.size, 0, none⟩) 0 cn] 57)).alloc (.cells #[.string ⟨#[]⟩] 9)) := (((Below.refl _ w).grown hgrow (Nat.le_refl _) (fun k hk => by cases hk)).alloc (by omega) _).alloc (by simp; omega) _
    have hO0 : ((w1.alloc (.cells #[.slice (some ⟨w.heap.size, 0, none⟩) 0 cn] 57)).alloc (.cells #[.string ⟨#[]⟩] 9)).ownsRow w.heap.size 9 1 (.slice (some ⟨w.heap.size, 0, none⟩) 0 cn) 0 [] := (hown.alloc _).alloc _
    have hsz3 : ((w1.alloc (.cells #[.slice (some ⟨w.heap.size, 0, none⟩) 0 cn] 57)).alloc (.cells #[.string ⟨#[]⟩] 9)).heap.size = w1.heap.size + 2 := by simp
    have HX := Hid.of (And.intro (bO.alloc (.cells #[.string ⟨#[]⟩] 9)) (And.intro hO0 hB0))
    have HC := Hid.of bN.cell
    rw [World.size_alloc]
    generalize ((w1.alloc (.cells #[.slice (some ⟨w.heap.size, 0, none⟩) 0 cn] 57)).alloc (.cells #[.string ⟨#[]⟩] 9)) = W3 at *
    clear bO bN hB0 hO0 hown hgrow
    gi_wp2_with fail
    refine wpIn_rangeFunc_ownG rfl (by decide) (gf := 108) (lb := #[.pointer (some ⟨w1.heap.size + 1, 0, none⟩)]) rfl trivial (enters_of Tryz.func108 (by kernel_rfl) rfl)
      (each_stopsB 3 (by decide) (w1.heap.size + 1) w.heap.size ⟨#[]⟩ hs W3 (by omega) HC.out) belowK_t (belowK_b (by omega)) (Below.refl _ _) (fun _ => rfl)
      (fun (pre : List (Nat × List UInt8)) W => (∃ v, Boxed W w1.heap.size 57 v ∧ W.ownsRow w.heap.size 9 1 v pre.length (pre.map fun x => Value.string ⟨x.2.toArray⟩) ∧ True) ∧ Below w.heap.size w W)
      (fun _ _ _ => False)
      (OwnFrom.and (Own.from (holdsRow_own w.heap.size w1.heap.size 57 9 1 (fun pre : List (Nat × List UInt8) => pre.length) (fun pre => pre.map fun x => Value.string ⟨x.2.toArray⟩) (fun _ _ => True)) _) (ownFrom_below (Nat.le_refl _) (by omega)))
      (fun _ _ _ _ _ hs _ _ => hs)
      ⟨⟨_, HX.out.1, HX.out.2.1, trivial⟩, HX.out.2.2⟩
      (fun x => { tmps := #[.string ⟨#[]⟩, undef, .slice none 0 0, .int .i64 0, .pointer (some ⟨w1.heap.size, 0, none⟩), undef, .string ⟨x.2.toArray⟩, .string ⟨#[]⟩, .bool false, .string ⟨#[]⟩, .bool false, .bool false, undef, undef, undef, .bool false, .string ⟨#[]⟩, .int .i64 (cn : Int), .slice (some ⟨w.heap.size, 0, none⟩) 0 cn, .string ⟨#[]⟩, .func (.func 108) #[] #[.pointer (some ⟨w1.heap.size + 1, 0, none⟩)], .int .i64 (x.1 : Int), .string ⟨x.2.toArray⟩, undef, undef, undef, undef, undef], defers := [] }) ?assign ?body ?done ?stop
    case assign =>
      intro l x W K hK
      gi_wp2
      exact hK
    case body =>
      rintro l pre x W _ hlt
      exact absurd hlt (by simp [linesOf, lns])
    case done =>
      rintro D ys W hD rfl ⟨⟨v, hv, hrow, _⟩, hB⟩ hK
      have hc := hv.cell
      have hrow' : W.ownsRow w.heap.size 9 1 v (linesOf (⟨#[]⟩ : ByteArray).data.toList).length ((linesOf (⟨#[]⟩ : ByteArray).data.toList).map fun l => Value.string ⟨l.toArray⟩) := by
        have e1 := ixs_map 0 (linesOf (⟨#[]⟩ : ByteArray).data.toList)
        have e2 := ixs_len 0 (linesOf (⟨#[]⟩ : ByteArray).data.toList)
        rw [e2] at hrow
        have e3 : ((ixs 0 (linesOf (⟨#[]⟩ : ByteArray).data.toList)).map fun x => Value.string ⟨x.2.toArray⟩) = (linesOf (⟨#[]⟩ : ByteArray).data.toList).map fun l => Value.string ⟨l.toArray⟩ := by
          conv => rhs; rw [← e1]
          rw [List.map_map]; rfl
        rw [e3] at hrow
        exact hrow
      clear hrow
      gi_wp2
      refine ⟨by simp, .inl ⟨_, _, rfl, run_takeDeferred hK, ?_⟩⟩
      exact ⟨_, results_tmp2 rfl _ _ _, v, rfl, ownsRow_putObj hrow' _ hK rfl, hB.trans (belowK_b (w := w) (Nat.le_refl _) W D _ _ (by omega) hK rfl rfl)⟩
    case stop =>
      rintro D c pre W _ _ h _
      exact h.elim
  · have e0 := enoB h0
    have hsf : Go.Lib.hasSuffix s.data.toList (⟨#[10]⟩ : ByteArray).data.toList = true := by
      rw [show (⟨#[10]⟩ : ByteArray).data.toList = [10] from rfl, suf_tenB]
      rcases HS.out.2 with h | h
      · rw [Go.Lib.size_eq, h] at h0; simp at h0
      · exact decide_eq_true h
    have HSF := Hid.of hsf
    clear h0 hsf
    gi_wp2_with fail
    refine ⟨trivial, ?_⟩
    refine (callsIn_wide.2 (Any.strings_HasSuffix Tryz.lays100 s ⟨#[10]⟩ w (by omega))).mono ?_
    rintro e w' ⟨rfl, hw⟩
    obtain rfl := hw.symm
    rw [HSF.out]
    dsimp only
    gi_wp2_with fail
    refine ⟨trivial, ?_⟩
    refine (callsIn_wide.2 (Any.strings_Count_one Tryz.lays138 s 10 w)).mono ?_
    rintro e w' ⟨rfl, hw⟩
    obtain rfl := hw.symm
    dsimp only
    have hcnt : Go.Lib.countByte s.data.toList 10 ≤ 1048576 := by
      have h1 : Go.Lib.countByte s.data.toList 10 ≤ s.data.toList.length := List.count_le_length
      rw [← Go.Lib.size_eq] at h1
      omega
    generalize Go.Lib.countByte s.data.toList 10 = cn at *
    obtain ⟨i0, hi, hz0, hz1, hz2⟩ := info_parts Tryz.infoStrB
    gi_wp2_with (gi_at_make; refine wpListIn_make_own _ rfl _ _ 57 rfl w.heap.size 9 i0 (.string ⟨#[]⟩) 1 Tryz.underlying57 hi hz0 hz1 .i64 .i64 _ cn rfl rfl rfl (by rw [hz2]; omega) (by unfold maxLen; omega) (Nat.le_refl _) ?_; intro w1 hown hgrow)
    refine ⟨trivial, ?_⟩
    refine (callsIn_wide.2 (each_inB s _)).mono ?_
    rintro e w' ⟨rfl, hw⟩
    obtain rfl := hw.symm
    dsimp only
    have hw1 : w.heap.size ≤ w1.heap.size := hgrow.size
    have bO := Boxed.new w1 57 (.slice (some ⟨w.heap.size, 0, none⟩) 0 cn)
    have bN := Boxed.new (w1.alloc (.cells #[.slice (some ⟨w.heap.size, 0, none⟩) 0 cn] 57)) 9 (.string s)
    rw [World.size_alloc] at bN
    have hB0 : Below w.heap.size w ((w1.alloc (.cells #[.slice (some ⟨w.heap.size, 0, none⟩) 0 cn] 57)).alloc (.cells #[.string s] 9)) := (((Below.refl _ w).grown hgrow (Nat.le_refl _) (fun k hk => by cases hk)).alloc (by omega) _).alloc (by simp; omega) _
    have hO0 : ((w1.alloc (.cells #[.slice (some ⟨w.heap.size, 0, none⟩) 0 cn] 57)).alloc (.cells #[.string s] 9)).ownsRow w.heap.size 9 1 (.slice (some ⟨w.heap.size, 0, none⟩) 0 cn) 0 [] := (hown.alloc _).alloc _
    have hsz3 : ((w1.alloc (.cells #[.slice (some ⟨w.heap.size, 0, none⟩) 0 cn] 57)).alloc (.cells #[.string s] 9)).heap.size = w1.heap.size + 2 := by simp
    have HX := Hid.of (And.intro (bO.alloc (.cells #[.string s] 9)) (And.intro hO0 hB0))
    have HC := Hid.of bN.cell
    rw [World.size_alloc]
    generalize ((w1.alloc (.cells #[.slice (some ⟨w.heap.size, 0, none⟩) 0 cn] 57)).alloc (.cells #[.string s] 9)) = W3 at *
    clear bO bN hB0 hO0 hown hgrow
    gi_wp2_with fail
    refine wpIn_rangeFunc_ownG rfl (by decide) (gf := 108) (lb := #[.pointer (some ⟨w1.heap.size + 1, 0, none⟩)]) rfl trivial (enters_of Tryz.func108 (by kernel_rfl) rfl)
      (each_stopsB 3 (by decide) (w1.heap.size + 1) w.heap.size s hs W3 (by omega) HC.out) belowK_t (belowK_b (by omega)) (Below.refl _ _) (fun _ => rfl)
      (fun (pre : List (Nat × List UInt8)) W => (∃ v, Boxed W w1.heap.size 57 v ∧ W.ownsRow w.heap.size 9 1 v pre.length (pre.map fun x => Value.string ⟨x.2.toArray⟩) ∧ True) ∧ Below w.heap.size w W)
      (fun _ _ _ => False)
      (OwnFrom.and (Own.from (holdsRow_own w.heap.size w1.heap.size 57 9 1 (fun pre : List (Nat × List UInt8) => pre.length) (fun pre => pre.map fun x => Value.string ⟨x.2.toArray⟩) (fun _ _ => True)) _) (ownFrom_below (Nat.le_refl _) (by omega)))
      (fun _ _ _ _ _ hs _ _ => hs)
      ⟨⟨_, HX.out.1, HX.out.2.1, trivial⟩, HX.out.2.2⟩
      (fun x => { tmps := #[.string s, undef, .slice none 0 0, .int .i64 0, .pointer (some ⟨w1.heap.size, 0, none⟩), undef, .string ⟨x.2.toArray⟩, .string s, .bool false, .string s, .bool true, .bool true, .string s, .bool true, .bool false, .bool false, .string s, .int .i64 (cn : Int), .slice (some ⟨w.heap.size, 0, none⟩) 0 cn, .string s, .func (.func 108) #[] #[.pointer (some ⟨w1.heap.size + 1, 0, none⟩)], .int .i64 (x.1 : Int), .string ⟨x.2.toArray⟩, undef, undef, undef, undef, undef], defers := [] }) ?assign ?body ?done ?stop
    case assign =>
      intro l x W K hK
      gi_wp2
      exact hK
    case body =>
      rintro l pre x W ⟨⟨v, hv, hrow, _⟩, hB⟩ hlt
      have hll := lines_len s.data.toList
      rw [← Go.Lib.size_eq] at hll
      have hc := hv.cell
      gi_wp2_with (gi_at_builtin; refine wpListIn_append_own _ rfl _ _ 57 rfl w.heap.size 9 i0 (.string ⟨#[]⟩) 1 16 Tryz.underlying57 hi hz0 hz1 hz2 rfl (by decide) _ _ _ rfl (hrow.alloc _) ⟨W.heap.size, 0, none⟩ 1 1 [.string ⟨x.2.toArray⟩] rfl rfl (cell_one_new _ _ _) (by simp [Value.oneCell']) (by unfold maxLen; omega) (by omega) (by have := hB.size; simp; omega) ?_; intro v' w2 hown' hgrow' _; obtain ⟨g', cap', rfl⟩ := ownsRow_succ hown'; obtain ⟨hv1, hv2, hr2, hk2, hb2⟩ := hv.appended (by decide) hrow hB.size hw1 hown' hgrow'; have hc1 := hv1.cell; have hf1 := hv1.frozen)
      exact ⟨hk2.from _, hb2, ⟨_, hv2, by simpa using hr2, trivial⟩, hB.trans hb2⟩
    case done =>
      rintro D ys W hD rfl ⟨⟨v, hv, hrow, _⟩, hB⟩ hK
      have hc := hv.cell
      have hrow' : W.ownsRow w.heap.size 9 1 v (linesOf s.data.toList).length ((linesOf s.data.toList).map fun l => Value.string ⟨l.toArray⟩) := by
        have e1 := ixs_map 0 (linesOf s.data.toList)
        have e2 := ixs_len 0 (linesOf s.data.toList)
        rw [e2] at hrow
        have e3 : ((ixs 0 (linesOf s.data.toList)).map fun x => Value.string ⟨x.2.toArray⟩) = (linesOf s.data.toList).map fun l => Value.string ⟨l.toArray⟩ := by
          conv => rhs; rw [← e1]
          rw [List.map_map]; rfl
        rw [e3] at hrow
        exact hrow
      clear hrow
      gi_wp2
      refine ⟨by simp, .inl ⟨_, _, rfl, run_takeDeferred hK, ?_⟩⟩
      exact ⟨_, results_tmp2 rfl _ _ _, v, rfl, ownsRow_putObj hrow' _ hK rfl, hB.trans (belowK_b (w := w) (Nat.le_refl _) W D _ _ (by omega) hK rfl rfl)⟩
    case stop =>
      rintro D c pre W _ _ h _
      exact h.elim
set_option maxRecDepth 100000 in
set_option maxHeartbeats 1000000 in
theorem Lines_walkB (s : ByteArray) (w : World) : Calls Tryz.prog 50 #[.string s] w fun e w' => ∃ v, e = .returned (.tuple #[v, .int .i64 (lnE s.data.toList)]) ∧ (lnE s.data.toList ≠ 0 → v = .slice none 0 0) ∧ (lnE s.data.toList = 0 → OwnSB w' w.heap.size v (linesOf s.data.toList)) ∧ Up w w' := by
  by_cases h1 : 1048576 < s.size
  · have HE := Hid.of (show lnE s.data.toList = 2 from if_pos (by rw [← Go.Lib.size_eq]; exact h1))
    go_enter Tryz.func50, Tryz.ntmps50
    go_wp2_with fail
    refine (tooLongP_walk s w).mono ?_
    rintro e w' ⟨rfl, hw⟩
    obtain rfl := hw.symm
    rw [decide_eq_true h1]
    dsimp only
    go_wp2
    go_ret2
    rw [HE.out]
    exact ⟨_, rfl, fun _ => rfl, fun h => by omega, Up.refl _⟩
  · have hs : s.size ≤ 1048576 := by omega
    have hsl : ¬ 1048576 < s.data.toList.length := by rw [← Go.Lib.size_eq]; exact h1
    by_cases he : s.data.toList = [] ∨ s.data.toList.getLast? = some 10
    · have hE : lnE s.data.toList = 0 := by unfold lnE; rw [if_neg hsl, if_pos he]
      refine (Lines_mainB s hs he w).mono ?_
      rintro e w' ⟨v, rfl, h2, h3⟩
      rw [hE]
      exact ⟨v, rfl, fun h => absurd rfl h, fun _ => h2, h3⟩
    · have HE := Hid.of (show lnE s.data.toList = 64 by unfold lnE; rw [if_neg hsl, if_neg he])
      have e0 : s.toList.isEmpty = false := enoB (fun h => he (.inl (by rw [Go.Lib.size_eq] at h; exact List.length_eq_zero_iff.1 h)))
      have HSF := Hid.of (show Go.Lib.hasSuffix s.data.toList (⟨#[10]⟩ : ByteArray).data.toList = false by
        rw [show (⟨#[10]⟩ : ByteArray).data.toList = [10] from rfl, suf_tenB]
        exact decide_eq_false fun h => he (.inr h))
      clear he hsl
      go_enter Tryz.func50, Tryz.ntmps50
      go_wp2_with fail
      refine (tooLongP_walk s w).mono ?_
      rintro e w' ⟨rfl, hw⟩
      obtain rfl := hw.symm
      rw [decide_eq_false h1]
      dsimp only
      go_wp2_with fail
      refine (Any.strings_HasSuffix Tryz.lays100 s ⟨#[10]⟩ w (by omega)).mono ?_
      rintro e w' ⟨rfl, hw⟩
      obtain rfl := hw.symm
      rw [HSF.out]
      dsimp only
      go_wp2
      go_ret2
      rw [HE.out]
      exact ⟨_, rfl, fun _ => rfl, fun h => by omega, Up.refl _⟩
end Go.Proofs.YtaphjbcnnkoffaaGreatDoor
namespace Go.Proofs.YtaphjbcnnkoffaaGreatDoor
open Go.RowKit TextNum

def bn : List UInt8 → Nat
  | [] => 0
  | [x] => x.toNat * 65536
  | [x, y] => x.toNat * 65536 + y.toNat * 256
  | x :: y :: z :: _ => x.toNat * 65536 + y.toNat * 256 + z.toNat
theorem bn_lt (g : List UInt8) : bn g < 16777216 := by
  match g with
  | [] => decide
  | [x] => have := x.toNat_lt; simp only [bn]; omega
  | [x, y] => have := x.toNat_lt; have := y.toNat_lt; simp only [bn]; omega
  | x :: y :: z :: _ => have := x.toNat_lt; have := y.toNat_lt; have := z.toNat_lt; simp only [bn]; omega
def gl (g : List UInt8) (i : Nat) : UInt8 := if i ≤ g.length then lt (bn g / 2 ^ (18 - 6 * i) % 64) else 61
theorem gl_all (g : List UInt8) (h1 : 1 ≤ g.length) (h3 : g.length ≤ 3) : b64E g = [gl g 0, gl g 1, gl g 2, gl g 3] := by
  match g, h1, h3 with
  | [x], _, _ =>
    have hx := x.toNat_lt
    simp only [b64E, g1, gl, bn, List.length_cons, List.length_nil]
    simp only [show (0 : Nat) ≤ 0 + 1 from by decide, show (1 : Nat) ≤ 0 + 1 from by decide, show ¬ (2 : Nat) ≤ 0 + 1 from by decide, show ¬ (3 : Nat) ≤ 0 + 1 from by decide, if_true, if_false]
    rw [show x.toNat * 65536 / 2 ^ (18 - 6 * 0) % 64 = x.toNat / 4 from by simp; omega, show x.toNat * 65536 / 2 ^ (18 - 6 * 1) % 64 = x.toNat % 4 * 16 from by simp; omega]
  | [x, y], _, _ =>
    have hx := x.toNat_lt
    have hy := y.toNat_lt
    simp only [b64E, g2, gl, bn, List.length_cons, List.length_nil]
    simp only [show (0 : Nat) ≤ 0 + 1 + 1 from by decide, show (1 : Nat) ≤ 0 + 1 + 1 from by decide, show (2 : Nat) ≤ 0 + 1 + 1 from by decide, show ¬ (3 : Nat) ≤ 0 + 1 + 1 from by decide, if_true, if_false]
    rw [show (x.toNat * 65536 + y.toNat * 256) / 2 ^ (18 - 6 * 0) % 64 = x.toNat / 4 from by simp; omega, show (x.toNat * 65536 + y.toNat * 256) / 2 ^ (18 - 6 * 1) % 64 = x.toNat % 4 * 16 + y.toNat / 16 from by simp; omega,
      show (x.toNat * 65536 + y.toNat * 256) / 2 ^ (18 - 6 * 2) % 64 = y.toNat % 16 * 4 from by simp; omega]
  | [x, y, z], _, _ =>
    have hx := x.toNat_lt
    have hy := y.toNat_lt
    have hz := z.toNat_lt
    simp only [b64E, g3, gl, bn, List.length_cons, List.length_nil, List.append_nil]
    simp only [show (0 : Nat) ≤ 0 + 1 + 1 + 1 from by decide, show (1 : Nat) ≤ 0 + 1 + 1 + 1 from by decide, show (2 : Nat) ≤ 0 + 1 + 1 + 1 from by decide, show (3 : Nat) ≤ 0 + 1 + 1 + 1 from by decide, if_true]
    rw [show (x.toNat * 65536 + y.toNat * 256 + z.toNat) / 2 ^ (18 - 6 * 0) % 64 = x.toNat / 4 from by simp; omega, show (x.toNat * 65536 + y.toNat * 256 + z.toNat) / 2 ^ (18 - 6 * 1) % 64 = x.toNat % 4 * 16 + y.toNat / 16 from by simp; omega,
      show (x.toNat * 65536 + y.toNat * 256 + z.toNat) / 2 ^ (18 - 6 * 2) % 64 = y.toNat % 16 * 4 + z.toNat / 64 from by simp; omega, show (x.toNat * 65536 + y.toNat * 256 + z.toNat) / 2 ^ (18 - 6 * 3) % 64 = z.toNat % 64 from by simp; omega]
/-- one more byte of the group -/
theorem bn_step (g : List UInt8) (i : Nat) (hi : i < g.length) (h3 : g.length ≤ 3) :
    bn (g.take (i + 1)) = bn (g.take i) + g[i].toNat * 2 ^ (16 - 8 * i) ∧ bn (g.take i) % 2 ^ (24 - 8 * i) = 0 := by
  match g, i, hi, h3 with
  | x :: r, 0, _, _ => exact ⟨by cases r <;> simp [bn], by simp [bn]⟩
  | x :: y :: r, 1, _, _ => exact ⟨by cases r <;> simp [bn], by simp [bn]⟩
  | x :: y :: z :: r, 2, _, _ => exact ⟨by cases r <;> simp [bn], by simp [bn]; omega⟩
  | _, (n + 3), h, h3 => exact absurd h (by omega)

end Go.Proofs.YtaphjbcnnkoffaaGreatDoor
namespace Go.Proofs.YtaphjbcnnkoffaaGreatDoor
open Go.RowKit TextNum

theorem b64_step (l : List UInt8) (i : Nat) (h3 : i % 3 = 0) (hi : i ≤ l.length) : b64E (l.take (i + 3)) = b64E (l.take i) ++ b64E ((l.drop i).take 3) := by
  rw [← b64E_append _ _ (by rw [List.length_take, Nat.min_eq_left hi]; exact h3), ← List.take_add]
/-- a piece of a list that is read -/
theorem sl_piece {w : World} {l : List UInt8} {b off c : Nat} (hc : ∀ i (h : i < l.length), w.cell? ⟨b, off + i, none⟩ = some (.int .u8 (l[i].toNat : Int))) (hb : b < w.heap.size) (hlc : l.length ≤ c) (i n : Nat) (hin : i + n ≤ l.length) :
    Sl w (.slice (some ⟨b, off + i, none⟩) n (c - i)) ((l.drop i).take n) := by
  have hlen : ((l.drop i).take n).length = n := by simp; omega
  refine ⟨_, c - i, by rw [hlen], by rw [hlen]; omega, .inr ⟨b, off + i, rfl, hb, fun j hj => ?_⟩⟩
  rw [hlen] at hj
  have := hc (i + j) (by omega)
  rw [← Nat.add_assoc] at this
  rw [this]
  simp

end Go.Proofs.YtaphjbcnnkoffaaGreatDoor
namespace Go.Proofs.YtaphjbcnnkoffaaGreatDoor
open Go.RowKit TextNum Go.Proofs
theorem HasPrefix_walk (s p : ByteArray) (w : World) : Calls Tryz.prog 122 #[.string s, .string p] w fun e w' => e = .returned (.bool (Go.Lib.hasPrefix s.data.toList p.data.toList)) ∧ w' = w :=
  Any.strings_HasPrefix Tryz.lays99 s p w
theorem TrimSuffix_walkB (s p : ByteArray) (w : World) (hs : s.size ≤ 9223372036854775807) : Calls Tryz.prog 134 #[.string s, .string p] w fun e w' => e = .returned (.string ⟨(Go.Lib.trimSuffix s.data.toList p.data.toList).toArray⟩) ∧ w' = w :=
  Any.strings_TrimSuffix Tryz.lays102 s p w hs

/-! plain facts -/
theorem esc_short {l : List UInt8} (h : l.length < 4) : esc l = none := by
  unfold esc
  split
  · simp at h; omega
  · rfl
theorem esc_nopre {l : List UInt8} (h : Go.Lib.hasPrefix l [92, 120] = false) : esc l = none := by
  unfold esc
  split
  · simp [Go.Lib.hasPrefix, List.isPrefixOf] at h
  · rfl
theorem esc_pre {l : List UInt8} (h : Go.Lib.hasPrefix l [92, 120] = true) (h4 : 4 ≤ l.length) : esc l = match hexB l[2] l[3] with
    | some x => if its x then none else some (x, 4)
    | none => none := by
  match l, h4 with
  | a :: b :: c :: d :: r, _ =>
    simp [Go.Lib.hasPrefix, List.isPrefixOf] at h
    obtain ⟨rfl, rfl⟩ := h
    rfl
/-- what firstByte answers -/
def fbV (l : List UInt8) : Value := match fb l with
  | some (x, n) => .tuple #[.int .u8 (x.toNat : Int), .int .i64 (n : Int)]
  | none => .tuple #[.int .u8 0, .int .i64 0]
theorem fbV_some {l : List UInt8} {x : UInt8} {n : Nat} (h : fb l = some (x, n)) : fbV l = .tuple #[.int .u8 (x.toNat : Int), .int .i64 (n : Int)] := by unfold fbV; rw [h]
theorem fbV_none {l : List UInt8} (h : fb l = none) : fbV l = .tuple #[.int .u8 0, .int .i64 0] := by unfold fbV; rw [h]
end Go.Proofs.YtaphjbcnnkoffaaGreatDoor
namespace Go.Proofs.YtaphjbcnnkoffaaGreatDoor
open Go.RowKit TextNum

theorem up_bytes (w : World) (e : TypeId) (s : ByteArray) : Up w (Go.Lib.bytesWorld w e s) :=
  ⟨rfl, rfl, rfl, by rw [Go.Lib.bytesWorld_size]; omega, fun k hk => Go.Lib.bytesWorld_at_old w e s k hk⟩
theorem up_grow (w : World) (os : Array Obj) : Up w (Go.Sort.grow w os) :=
  ⟨rfl, rfl, rfl, by simp [Go.Sort.grow], fun k hk => by simp [Go.Sort.grow, Array.getElem?_append, hk]⟩
theorem var_up {P : Program} {w w' : World} (hu : Up w w') {n : String} {cs : Array Value} (h : w.var? P n = some cs) : w'.var? P n = some cs := by
  unfold World.var? at h ⊢
  cases hg : P.globalNamed n with
  | none => simp [hg] at h
  | some g =>
    simp only [hg, Option.bind_some] at h ⊢
    have hlt : g < w.heap.size := by
      rcases Nat.lt_or_ge g w.heap.size with h' | h'
      · exact h'
      · simp [Array.getElem?_eq_none h'] at h
    rw [hu.block g hlt]
    exact h
theorem take_succ0 {l : List UInt8} {i : Nat} (h : i < l.length) : l.take (i + 1) = l.take i ++ [l[i]] := by simp
/-- the laid variables that the numbers' calls read -/
structure GN (w : World) : Prop where
  tab : Go.Lib.TabIs Tryz.prog w "internal/strconv.uint64pow10" .u64 Go.Lib.pow10Tab
  rng : ∃ te pe, w.cell? ⟨4, 0, none⟩ = some (.iface te pe)
theorem GN.up {w w' : World} (h : GN w) (k : Up w w') : GN w' := ⟨var_up k h.tab, by obtain ⟨te, pe, hc⟩ := h.rng; exact ⟨te, pe, k.cell hc⟩⟩

set_option maxRecDepth 100000 in
theorem isNumber_walkB (s : ByteArray) (hs : s.size ≤ 1048576) (w : World) : Calls Tryz.prog 26 #[.string s] w fun e w' => e = .returned (.bool (isN s.data.toList)) ∧ w' = w := by
  have HS := Hid.of (Go.Lib.size_eq s)
  go_enter Tryz.func26, Tryz.ntmps26
  go_wp2
  go_loop [6] (fun v6 => ∃ i : Nat, v6 = .int .i64 (i : Int) ∧ i ≤ s.size ∧ Hid ((s.data.toList.take i).all isD = true)) (fun v6 => s.size - (intOf v6).toNat)
  case atStart => exact ⟨0, rfl, by omega, Hid.of (by simp)⟩
  case round =>
    obtain ⟨i, rfl, hi, hI⟩ := hrel
    by_cases hlt : i < s.size
    · have hlt' : (i : Int) < (s.size : Int) := by omega
      have ht : s.data.toList.take (i + 1) = s.data.toList.take i ++ [s[i]] := by rw [sget' s i hlt]; exact take_succ0 (by rw [← HS.out]; exact hlt)
      by_cases hd : isD s[i] = true
      · have hd' := isD_iff.1 hd
        have HN := Hid.of (show (s.data.toList.take (i + 1)).all isD = true by rw [ht, List.all_append, hI.out]; simp [hd])
        have b1 : ¬ (s[i].toNat : Int) < 48 := by omega
        have b2 : decide ((s[i].toNat : Int) < 48) = false := by simp; omega
        have b3 : decide ((57 : Int) < (s[i].toNat : Int)) = false := by simp; omega
        have b4 : (s[i].toNat : Int) ≤ 57 := by omega
        clear ht hd hd'
        go_wp2
        go_round
        case rel => exact ⟨i + 1, by go_num, by omega, HN⟩
        case measure => simp [intOf]; omega
      · have hf : isN s.data.toList = false := by
          unfold isN
          have hno : s.data.toList.all isD = false := by
            rw [List.all_eq_false]
            refine ⟨s[i], ?_, hd⟩
            rw [sget' s i hlt]
            exact List.getElem_mem (by rw [← HS.out]; exact hlt)
          rw [hno]; rfl
        have HF := Hid.of hf
        have hd' : s[i].toNat < 48 ∨ 57 < s[i].toNat := by
          rw [isD_iff] at hd; omega
        clear hd hf ht
        rcases hd' with hd' | hd'
        · have b2 : (s[i].toNat : Int) < 48 := by omega
          go_wp2
          go_ret
          rw [HF.out]
          exact ⟨rfl, rfl⟩
        · have b2 : decide ((s[i].toNat : Int) < 48) = false := by simp; omega
          have b3 : (57 : Int) < (s[i].toNat : Int) := by omega
          go_wp2
          go_ret
          rw [HF.out]
          exact ⟨rfl, rfl⟩
    · have hie : i = s.size := by omega
      have hall : s.data.toList.all isD = true := by have := hI.out; rwa [hie, HS.out, List.take_length] at this
      have hN : isN s.data.toList = (decide (s.size = 1) || (decide (1 < s.size) && decide (s.data.toList.head? ≠ some 48))) := by
        unfold isN; rw [hall, Bool.true_and, ← Go.Lib.size_eq]
      have HN := Hid.of hN
      clear hN hall hI
      by_cases h1 : s.size = 1
      · have HF := Hid.of (show isN s.data.toList = true by rw [HN.out]; simp [h1])
        have b1 : ((s.size : Int) == 1) = true := by simp; omega
        go_wp2
        go_ret
        rw [HF.out]
        exact ⟨rfl, rfl⟩
      · have b1 : ((s.size : Int) == 1) = false := by simp; omega
        by_cases h2 : 1 < s.size
        · have h0 : 0 < s.size := by omega
          have b2 : (1 : Int) < (s.size : Int) := by omega
          obtain ⟨r, hr⟩ := head_of' (s := s) h0
          have HF := Hid.of (show isN s.data.toList = ((s[0].toNat : Int) != 48) by
            rw [HN.out, hr]
            simp only [h1, h2, decide_false, decide_true, Bool.false_or, Bool.true_and, List.head?_cons, ne_eq, Option.some.injEq, bne]
            rw [show ((s[0].toNat : Int) == 48) = (s[0] == 48) from u8_eq (a := s[0]) (b := 48)]
            cases h : (s[0] == 48) <;> simp_all)
          clear hr
          go_wp2
          go_ret
          rw [HF.out]
          exact ⟨rfl, rfl⟩
        · have HF := Hid.of (show isN s.data.toList = false by rw [HN.out]; simp [h1, h2])
          have b2 : ¬ (1 : Int) < (s.size : Int) := by omega
          have b3 : decide ((1 : Int) < (s.size : Int)) = false := by simp; omega
          go_wp2
          go_ret
          rw [HF.out]
          exact ⟨rfl, rfl⟩
end Go.Proofs.YtaphjbcnnkoffaaGreatDoor
namespace Go.Proofs.YtaphjbcnnkoffaaGreatDoor
open Go.RowKit TextNum

theorem prs_long {l : List UInt8} {max : Int} (h : 1048576 < l.length) : prs l max = (0, 2) := if_pos h
theorem prs_no {l : List UInt8} {max : Int} (h : ¬ 1048576 < l.length) (hn : isN l = false) : prs l max = (0, 62) := by unfold prs; rw [if_neg h, if_neg (by rw [hn]; simp)]
theorem prs_ok {l : List UInt8} {max : Int} (h : ¬ 1048576 < l.length) (hn : isN l = true) (h1 : (nv l : Int) ≤ max) (h2 : nv l < 9223372036854775808) : prs l max = ((nv l : Int), 0) := by unfold prs; rw [if_neg h, if_pos hn, if_pos ⟨h1, h2⟩]
theorem prs_rng {l : List UInt8} {max : Int} (h : ¬ 1048576 < l.length) (hn : isN l = true) (h1 : ¬ ((nv l : Int) ≤ max ∧ nv l < 9223372036854775808)) : prs l max = (0, 63) := by unfold prs; rw [if_neg h, if_pos hn, if_neg h1]

set_option maxRecDepth 100000 in
theorem ParseNumber_walk (s : ByteArray) (max : Int) (w : World) (hG : GN w) :
    Calls Tryz.prog 12 #[.string s, .int .i64 max] w fun e w' => e = .returned (.tuple #[.int .i64 (prs s.data.toList max).1, .int .i64 (prs s.data.toList max).2]) ∧ Up w w' := by
  have HG := Hid.of hG
  clear hG
  have HS := Hid.of (Go.Lib.size_eq s)
  go_enter Tryz.func12, Tryz.ntmps12
  go_wp2_with fail
  refine (tooLong_walk s w).mono ?_
  rintro e w' ⟨rfl, hw⟩
  obtain rfl := hw.symm
  dsimp only
  by_cases h1 : 1048576 < s.size
  · have d1 : decide (1048576 < s.size) = true := by simpa using h1
    rw [d1]
    go_wp2
    go_ret2
    rw [prs_long (by rw [← HS.out]; exact h1)]
    exact ⟨rfl, Up.refl _⟩
  · have d1 : decide (1048576 < s.size) = false := by simpa using h1
    rw [d1]
    have hle : s.size ≤ 1048576 := by omega
    have HN := Hid.of (show ¬ 1048576 < s.data.toList.length by rw [← HS.out]; exact h1)
    clear d1 h1
    go_wp2_with fail
    refine (isNumber_walkB s hle w).mono ?_
    rintro e w' ⟨rfl, hw⟩
    obtain rfl := hw.symm
    dsimp only
    cases hn : isN s.data.toList with
    | false =>
      have HF := Hid.of (prs_no (max := max) HN.out hn)
      clear hn
      go_wp2
      go_ret2
      rw [HF.out]
      exact ⟨rfl, Up.refl _⟩
    | true =>
      have hp := parse_isN hn
      by_cases hv : nv s.data.toList < 9223372036854775808
      · rw [if_pos hv] at hp
        have HP := Hid.of (And.intro hp hn)
        obtain ⟨n, hnv⟩ : ∃ n, n = nv s.data.toList := ⟨_, rfl⟩
        have HV := Hid.of (And.intro hnv hv)
        rw [← hnv] at hp
        have HP2 := Hid.of hp
        clear hn hp hv hnv
        go_wp2_with fail
        refine Calls.mono (Go.Proofs.Any.strconv_ParseInt_10_at64_ok Tryz.laysc174 s (by omega) (n : Int) HP2.out w) ?_
        rintro e w2 ⟨rfl, hw2⟩
        have hu : Up w w2 := by
          rcases hw2 with rfl | ⟨t, rfl⟩
          · exact Up.refl _
          · exact up_bytes _ _ _
        have HU := Hid.of hu
        clear hw2 hu
        dsimp only
        by_cases hm : (n : Int) ≤ max
        · have HF := Hid.of (prs_ok (max := max) HN.out HP.out.2 (by rw [← HV.out.1]; exact hm) HV.out.2)
          have hm' : ¬ max < (n : Int) := by omega
          have dm : decide (max < (n : Int)) = false := by simp; omega
          go_wp2
          go_ret2
          rw [HF.out, ← HV.out.1]
          exact ⟨rfl, HU.out⟩
        · have HF := Hid.of (prs_rng (max := max) HN.out HP.out.2 (by rw [← HV.out.1]; omega))
          have hm' : max < (n : Int) := by omega
          go_wp2
          go_ret2
          rw [HF.out]
          exact ⟨rfl, HU.out⟩
      · rw [if_neg hv] at hp
        have HF := Hid.of (prs_rng (max := max) HN.out hn (by omega))
        have HP := Hid.of hp
        clear hn hp hv
        obtain ⟨te, pe, hc⟩ := HG.out.rng
        have HC := Hid.of hc
        clear hc
        go_wp2_with fail
        refine Calls.mono (Go.Proofs.Any.strconv_ParseInt_10_at64_range Tryz.laysc174 s (by omega) HP.out (.iface te pe) w HC.out (.inr ⟨te, pe, rfl⟩)) ?_
        rintro e w2 ⟨N, rfl, hN, hw2, hb⟩
        have HU := Hid.of (show Up w w2 from hb)
        clear hN hw2 hb
        generalize Go.Lib.intSat 64 s.data.toList = q
        dsimp only
        go_wp2
        go_ret2
        rw [HF.out]
        exact ⟨rfl, HU.out⟩
end Go.Proofs.YtaphjbcnnkoffaaGreatDoor
namespace Go.Proofs.YtaphjbcnnkoffaaGreatDoor
open Go.RowKit Go.Shelf TextNum
theorem result_cell_tmpB {P : Program} {fn : Func} {q q2 : Tmp} {T : TypeId} (h : fn.results = #[.cell q T, .tmp q2]) (tmps : Array Value) (w : World) (b : Nat) (cs : List Value) (v : Value) {d : TypeDesc}
    (hp : tmps.getD q undef = .pointer (some ⟨b, 0, none⟩)) (hv : tmps.getD q2 undef = v) (hc : w.rangeAt b 0 cs) (hu : P.underlying T = some d) (hd : d.isRow = true) (hi : (P.info? T).map (·.size) = some cs.length) : (results fn tmps).run P w = .ok (.tuple #[.agg cs.toArray, v]) w := by
  have hp' : tmps[q]?.getD undef = .pointer (some ⟨b, 0, none⟩) := by simpa using hp
  have hv' : tmps[q2]?.getD undef = v := by simpa using hv
  simp [results, h, hp', hv', asAddr, run_loadVar_mid w b 0 T cs _ hc hu hd hi]
theorem there_up {w w' : World} {b o n : Nat} (h : w.there b o n) (hb : b < w.heap.size) (k : Up w w') : w'.there b o n := by
  intro j hj
  have e := k.block b hb
  obtain ⟨h1, h2⟩ := h j hj
  constructor
  · rw [World.cell?_of_block e]; exact h1
  · rw [World.frozen?_of_block e]; exact h2
theorem there_new (w : World) (cs : List Value) (t : TypeId) : (w.alloc (.cells cs.toArray t)).there w.heap.size 0 cs.length := by
  intro j hj
  constructor
  · rw [World.cell?_alloc_at _ _ _ _ rfl]; simp; omega
  · exact World.frozen?_alloc_new w _ t _
theorem up_setCells {W : World} {b : Nat} (hb : W.heap.size ≤ b) : ∀ (vs : List Value) (o : Nat) {w' : World}, Up W w' → Up W (w'.setCells b o vs)
  | [], _, _, h => h
  | v :: r, o, _, h => up_setCells hb r (o + 1) (Below.setCell (p := ⟨b, o, none⟩) h hb v)
theorem OwnSB.cell {w : World} {B : Nat} {v : Value} {xs : List (List UInt8)} (h : OwnSB w B v xs) (hx : xs ≠ []) : ∃ g c, v = .slice (some ⟨g, 0, none⟩) xs.length c ∧ B ≤ g ∧ ∀ i (hi : i < xs.length), w.cell? ⟨g, i, none⟩ = some (.string ⟨xs[i].toArray⟩) := by
  rcases h.2 with ⟨rfl, e⟩ | ⟨g, cap, cur, rfl, hbg, hg, hnc, _⟩
  · exact absurd (List.eq_nil_of_length_eq_zero e) hx
  · refine ⟨g, cap, rfl, (World.ownsRow.lt h g rfl).1, fun i hi => ?_⟩
    have := World.ownsRow.cells h (g := g) rfl i (.string ⟨xs[i].toArray⟩) (by rw [List.getElem?_map, List.getElem?_eq_getElem hi]; rfl)
    rwa [add_plain, Nat.zero_add] at this
end Go.Proofs.YtaphjbcnnkoffaaGreatDoor
namespace Go.Proofs.YtaphjbcnnkoffaaGreatDoor
open Go.RowKit TextNum
theorem trim_pre {l : List UInt8} (h : Go.Lib.hasPrefix l MK = true) : Go.Lib.trimPrefix l MK = l.drop 4 := by
  unfold Go.Lib.trimPrefix
  rw [if_pos h]
  rfl
def zs : List Value := [.string ⟨#[]⟩, .int .u32 0, .slice none 0 0]
theorem zs_one : ∀ v, v ∈ zs → v.oneCell' = true := by
  intro v hv
  simp only [zs, List.mem_cons, List.not_mem_nil, or_false] at hv
  rcases hv with rfl | rfl | rfl <;> rfl
theorem five : ∀ {l : List UInt8}, 4 < l.length → ∃ x0 x1 x2 x3 x4 r5, l = x0 :: x1 :: x2 :: x3 :: x4 :: r5
  | x0 :: x1 :: x2 :: x3 :: x4 :: r5, _ => ⟨x0, x1, x2, x3, x4, r5, rfl⟩
theorem infoS : (Tryz.prog.info? 113).map (·.size) = some 3 := by kernel_rfl
theorem setCells_size (b : Nat) : ∀ (vs : List Value) (o : Nat) (w : World), (w.setCells b o vs).heap.size = w.heap.size
  | [], _, _ => rfl
  | v :: r, o, w => by
    show ((w.setCell ⟨b, o, none⟩ v).setCells b (o + 1) r).heap.size = _
    rw [setCells_size b r (o + 1)]
    simp
theorem sl_setCells {w : World} {g nl cv b : Nat} {l : List UInt8} {vs : List Value} (h : Sl w (.slice (some ⟨g, 0, none⟩) nl cv) l) (hne : g ≠ b) : Sl (w.setCells b 0 vs) (.slice (some ⟨g, 0, none⟩) nl cv) l := by
  obtain ⟨a, c, e, hc, h⟩ := h
  refine ⟨a, c, e, hc, ?_⟩
  rcases h with h | ⟨b', off, e2, hb, h⟩
  · exact .inl h
  · obtain rfl : g = b' := by
      injection e with e1 _ _
      rw [e2] at e1
      injection e1 with e1
      injection e1
    exact .inr ⟨g, off, e2, by rw [setCells_size]; exact hb, fun i hi => (World.cell?_setCells_out _ _ _ _ _ (fun e => absurd e hne)).trans (h i hi)⟩
/-- what readSigLine answers -/
def RA (l : List UInt8) (w : World) (e : Ending) (w' : World) : Prop :=
  (rdS l = none ∧ e = .returned (.tuple #[.agg #[.string ⟨#[]⟩, .int .u32 0, .slice none 0 0], .bool false]) ∧ Up w w') ∨
  ∃ x a c, rdS l = some x ∧ e = .returned (.tuple #[.agg #[.string x.name, .int .u32 (x.hash : Int), .slice a x.bytes.length c], .bool true]) ∧ Sl w' (.slice a x.bytes.length c) x.bytes ∧ (∀ b, (Value.slice a x.bytes.length c).ownBlock = some b → w.heap.size ≤ b ∧ b < w'.heap.size) ∧ Up w w' ∧ OwnN w' w.heap.size (.slice a x.bytes.length c) x.bytes
set_option maxRecDepth 100000 in
set_option maxHeartbeats 2000000 in
theorem readSigLine_walk (s : ByteArray) (hs : s.size ≤ 1048576) (w : World) (hT : TabL w) (hW : Go.Lib.WhiteTab 5 w) :
    Calls Tryz.prog 57 #[.string s] w (RA s.data.toList w) := by
  have HT := Hid.of hT
  have HW := Hid.of hW
  clear hT hW
  go_enter Tryz.func57, Tryz.ntmps57
  go_wp2_with fail
  refine (Any.strings_CutPrefix Tryz.lays103 s ⟨#[226, 128, 148, 32]⟩ _).mono ?_
  rintro e w' ⟨rfl, hw⟩
  obtain rfl := hw.symm
  rw [show (⟨#[226, 128, 148, 32]⟩ : ByteArray).data.toList = MK from rfl]
  by_cases hp : Go.Lib.hasPrefix s.data.toList MK = true
  rotate_left
  · have hp0 : Go.Lib.hasPrefix s.data.toList MK = false := by simpa using hp
    have HR := Hid.of (show rdS s.data.toList = none by unfold rdS; rw [if_neg hp])
    rw [hp0]
    clear hp hp0
    generalize (Go.Lib.trimPrefix s.data.toList MK) = tr
    dsimp only
    go_wp2
    refine bodyPost_ret (result_cell_tmpB Tryz.results57 _ _ w.heap.size zs _ rfl rfl (fun j v hv => ?_) Tryz.underlying113 rfl infoS) rfl ?_
    · rw [World.cell?_alloc_at _ _ _ _ rfl, Nat.zero_add]; simpa [zs] using hv
    · exact .inl ⟨HR.out, rfl, (Up.refl w).alloc _⟩
  have HR := Hid.of (show rdS s.data.toList = _ by unfold rdS; rw [if_pos hp])
  rw [hp, trim_pre hp]
  clear hp
  have hrs : (s.data.toList.drop 4).length ≤ 1048576 := by rw [List.length_drop, ← Go.Lib.size_eq]; omega
  generalize s.data.toList.drop 4 = r at *
  generalize s.data.toList = l at *
  dsimp only
  go_wp2_with fail
  have hu0 := (Up.refl w).alloc (Obj.cells zs.toArray 113)
  have ht0 := there_new w zs 113
  have hz0 : w.heap.size < (w.alloc (Obj.cells zs.toArray 113)).heap.size := by rw [World.alloc]; simp
  change Calls _ _ _ (w.alloc (Obj.cells zs.toArray 113)) _
  generalize w.alloc (Obj.cells zs.toArray 113) = w0 at *
  refine (Cut1_walkB ⟨r.toArray⟩ (by rw [Go.Lib.size_eq]; simpa using hrs) 32 _).mono ?_
  rintro e w1 ⟨rfl, n1, rfl⟩
  have hu1 : Up w (w0.drewN n1) := hu0.drewN n1
  have ht1 : (w0.drewN n1).there w.heap.size 0 3 := there_up ht0 hz0 ((Up.refl _).drewN n1)
  have hz1 : w.heap.size < (w0.drewN n1).heap.size := hz0
  generalize w0.drewN n1 = w1 at *
  clear hu0 ht0 hz0 hrs
  rw [show (⟨r.toArray⟩ : ByteArray).data.toList = r from rfl]
  generalize Go.Lib.cut r [32] = ct at *
  obtain ⟨nm, cd, fl⟩ := ct
  dsimp only at HR ⊢
  have H1 := Hid.of (And.intro hu1 (And.intro ht1 hz1))
  clear hu1 ht1 hz1
  go_wp2_with fail
  refine (DecodeBase64_walk ⟨cd.toArray⟩ w1 (HT.out.up H1.out.1)).mono ?_
  rintro e w2 ⟨v2, rfl, hO, u2⟩
  have H2 := Hid.of (show w2.there w.heap.size 0 3 ∧ Up w w2 ∧ w.heap.size < w2.heap.size from ⟨there_up H1.out.2.1 H1.out.2.2 u2, H1.out.1.trans u2, Nat.lt_of_lt_of_le H1.out.2.2 u2.size⟩)
  have HO := Hid.of (hO.base (Nat.succ_le_of_lt H1.out.2.2))
  clear u2 hO H1
  rw [show (⟨cd.toArray⟩ : ByteArray).data.toList = cd from rfl] at HO ⊢
  generalize b64R cd = br at *
  obtain ⟨bl, be⟩ := br
  dsimp only at HO HR ⊢
  obtain ⟨av, cv, rfl⟩ := HO.out.len
  generalize hnl : bl.length = nl at *
  go_wp2_with fail
  refine (CheckName_walk ⟨nm.toArray⟩ w2 (WhiteTab_up HW.out H2.out.2.1)).mono ?_
  rintro e w3 ⟨rfl, u3⟩
  have H3 := Hid.of (show w3.there w.heap.size 0 3 ∧ Up w w3 from ⟨there_up H2.out.1 H2.out.2.2 u3, H2.out.2.1.trans u3⟩)
  have HO3 := Hid.of (HO.out.below u3)
  have hz3 : w.heap.size < w3.heap.size := Nat.lt_of_lt_of_le H2.out.2.2 u3.size
  clear u3 H2 HO
  dsimp only
  generalize (⟨nm.toArray⟩ : ByteArray) = name at *
  rcases name_val name with hn | hn
  rotate_left
  · have HR := Hid.of (show rdS l = none by rw [HR.out, if_pos (.inl (by rw [hn]; decide))])
    rw [hn]
    go_wp2_with (with_reducible show wpList _ _ _ ({ dst := _, op := Op.store 113 (.tmp 2) _, type := _, pos := _, after := _, guard := _ } :: _) _ _; refine Shut.out ?_)
    show wpList _ _ _ _ _ _
    refine wpList_store_mid rfl _ _ _ rfl w.heap.size 0 zs.toArray rfl rfl (by exact H3.out.1) infoS (all_oneCell_toArray zs_one) ?_
    simp only [Act.put]
    have hrg : (World.setCells w3 w.heap.size 0 zs.toArray.toList).rangeAt w.heap.size 0 zs := World.rangeAt_setCells_same _ _ _ _ (by exact H3.out.1)
    have HUZ := Hid.of (up_setCells (Nat.le_refl _) zs.toArray.toList 0 H3.out.2)
    generalize World.setCells w3 w.heap.size 0 zs.toArray.toList = WZ at *
    go_wp2_with fail
    refine bodyPost_ret (result_cell_tmpB Tryz.results57 _ _ w.heap.size zs _ rfl rfl hrg Tryz.underlying113 rfl infoS) rfl ?_
    exact .inl ⟨HR.out, rfl, HUZ.out⟩
  have hn0 := hn
  rw [hn] at HR ⊢
  by_cases hbe : be = 0
  rotate_left
  · have hbe' : (be == 0) = false := by simpa using hbe
    have HR := Hid.of (show rdS l = none by rw [HR.out, if_pos (.inr (.inl hbe))])
    go_wp2_with (with_reducible show wpList _ _ _ ({ dst := _, op := Op.store 113 (.tmp 2) _, type := _, pos := _, after := _, guard := _ } :: _) _ _; refine Shut.out ?_)
    show wpList _ _ _ _ _ _
    refine wpList_store_mid rfl _ _ _ rfl w.heap.size 0 zs.toArray rfl rfl (by exact H3.out.1) infoS (all_oneCell_toArray zs_one) ?_
    simp only [Act.put]
    have hrg : (World.setCells w3 w.heap.size 0 zs.toArray.toList).rangeAt w.heap.size 0 zs := World.rangeAt_setCells_same _ _ _ _ (by exact H3.out.1)
    have HUZ := Hid.of (up_setCells (Nat.le_refl _) zs.toArray.toList 0 H3.out.2)
    generalize World.setCells w3 w.heap.size 0 zs.toArray.toList = WZ at *
    go_wp2_with fail
    refine bodyPost_ret (result_cell_tmpB Tryz.results57 _ _ w.heap.size zs _ rfl rfl hrg Tryz.underlying113 rfl infoS) rfl ?_
    exact .inl ⟨HR.out, rfl, HUZ.out⟩
  subst hbe
  by_cases hn4 : nl ≤ 4
  · have hn4' : (nl : Int) ≤ 4 := by omega
    have HR := Hid.of (show rdS l = none by rw [HR.out, if_pos (.inr (.inr hn4))])
    clear hn4
    go_wp2_with (with_reducible show wpList _ _ _ ({ dst := _, op := Op.store 113 (.tmp 2) _, type := _, pos := _, after := _, guard := _ } :: _) _ _; refine Shut.out ?_)
    show wpList _ _ _ _ _ _
    refine wpList_store_mid rfl _ _ _ rfl w.heap.size 0 zs.toArray rfl rfl (by exact H3.out.1) infoS (all_oneCell_toArray zs_one) ?_
    simp only [Act.put]
    have hrg : (World.setCells w3 w.heap.size 0 zs.toArray.toList).rangeAt w.heap.size 0 zs := World.rangeAt_setCells_same _ _ _ _ (by exact H3.out.1)
    have HUZ := Hid.of (up_setCells (Nat.le_refl _) zs.toArray.toList 0 H3.out.2)
    generalize World.setCells w3 w.heap.size 0 zs.toArray.toList = WZ at *
    go_wp2_with fail
    refine bodyPost_ret (result_cell_tmpB Tryz.results57 _ _ w.heap.size zs _ rfl rfl hrg Tryz.underlying113 rfl infoS) rfl ?_
    exact .inl ⟨HR.out, rfl, HUZ.out⟩
  have hn4' : ¬ (nl : Int) ≤ 4 := by omega
  replace HR := Hid.of (HR.out.trans (if_neg (by rintro (h | h | h) <;> first | exact h rfl | exact hn4 h)))
  obtain ⟨x0, x1, x2, x3, x4, r5, rfl⟩ : ∃ x0 x1 x2 x3 x4 r5, bl = x0 :: x1 :: x2 :: x3 :: x4 :: r5 := five (by omega)
  rw [List.drop_succ_cons, List.drop_succ_cons, List.drop_succ_cons, List.drop_succ_cons, List.drop_zero] at HR
  obtain ⟨g, rfl, hg0, hgl, hc0, hc1, hc2, hc3⟩ : ∃ g, av = some ⟨g, 0, none⟩ ∧ w.heap.size < g ∧ g < w3.heap.size ∧ w3.cell? ⟨g, 0, none⟩ = some (.int .u8 (x0.toNat : Int)) ∧ w3.cell? ⟨g, 1, none⟩ = some (.int .u8 (x1.toNat : Int)) ∧ w3.cell? ⟨g, 2, none⟩ = some (.int .u8 (x2.toNat : Int)) ∧ w3.cell? ⟨g, 3, none⟩ = some (.int .u8 (x3.toNat : Int)) := by
    rcases HO3.out.2 with ⟨e, _⟩ | ⟨g, cap, cur, e, hb, hg, _⟩
    · injection e with _ e2 _
      omega
    · injection e with e1 _ _
      have hcs := World.ownsRow.cells HO3.out (g := g) (by rw [e1]; rfl)
      refine ⟨g, e1, hb, (Array.getElem?_eq_some_iff.1 hg).1, ?_, ?_, ?_, ?_⟩
      · exact hcs 0 _ rfl
      · exact hcs 1 _ rfl
      · exact hcs 2 _ rfl
      · exact hcs 3 _ rfl
  have hsl : OwnN w3 w.heap.size (.slice (some ⟨g, 0, none⟩) nl cv) (x0 :: x1 :: x2 :: x3 :: x4 :: r5) := (HO3.out.base (Nat.le_succ _)).n (by simp)
  have har : ∀ w0, (Instr.arrayAt 145 (.slice (some ⟨g, 0, none⟩) nl cv)).run Tryz.prog w0 = .ok (.pointer (some ⟨g, 0, none⟩)) w0 := fun w0 => run_arrayAt w0 145 _ 4 _ nl cv Tryz.underlying145 (by omega)
  clear HO3
  have hgne : g ≠ w.heap.size := by omega
  go_wp2_with fail
  refine wp_region_held_drew (S := fun w2 => (w2.cell? ⟨g, 0, none⟩ = some (.int .u8 (x0.toNat : Int)) ∧ w2.cell? ⟨g, 1, none⟩ = some (.int .u8 (x1.toNat : Int)) ∧ w2.cell? ⟨g, 2, none⟩ = some (.int .u8 (x2.toNat : Int)) ∧ w2.cell? ⟨g, 3, none⟩ = some (.int .u8 (x3.toNat : Int))) ∧ w2.there w.heap.size 0 3 ∧ OwnN w2 w.heap.size (.slice (some ⟨g, 0, none⟩) nl cv) (x0 :: x1 :: x2 :: x3 :: x4 :: r5) ∧ Up w w2 ∧ w.heap.size < w2.heap.size) (by kernel_rfl) ⟨⟨hc0, hc1, hc2, hc3⟩, H3.out.1, hsl.up (Up.refl w3).drew, H3.out.2.drew, hz3⟩ (fun hS => ?_)
  clear hc0 hc1 hc2 hc3 hsl H3 hz3
  obtain ⟨sa, sn, sc, HSD⟩ : ∃ sa sn sc, Hid (sliced (some ⟨g, 0, none⟩) 4 nl cv 1 = .slice sa sn sc) := ⟨_, _, _, Hid.of rfl⟩
  refine wpAnyH_take (i := 0) (oi := { dst := some 43, op := Go.Op.move (Go.Operand.tmp 6), type := 9, pos := "note.go:116", after := #[], guard := none }) (v := .string name) rfl (by kernel_rfl) (by kernel_rfl) (by kernel_rfl) (fun _ _ _ h => h) (Or.inl ⟨by kernel_rfl, ?_⟩) hS ?_
  · intro w5 hSw
    clear hSw hS
    go_simp
  simp only [Act.put, List.setIfInBounds_toArray, List.set_cons_zero, List.set_cons_succ]
  refine wpAnyH_take (i := 1) (oi := { dst := some 44, op := Go.Op.move (Go.Operand.tmp 9), type := 22, pos := "note.go:116", after := #[], guard := none }) (v := .slice (some ⟨g, 0, none⟩) nl cv) rfl (by kernel_rfl) (by kernel_rfl) (by kernel_rfl) (fun _ _ _ h => h) (Or.inl ⟨by kernel_rfl, ?_⟩) hS ?_
  · intro w5 hSw
    clear hSw hS
    go_simp
  simp only [Act.put, List.setIfInBounds_toArray, List.set_cons_zero, List.set_cons_succ]
  refine wpAnyH_take (i := 2) (oi := { dst := some 45, op := Go.Op.sliceToArrayPointer 145 (Go.Operand.tmp 44), type := 0, pos := "note.go:116", after := #[{ on := 1, ground := Go.Ground.data }], guard := none }) (v := .pointer (some ⟨g, 0, none⟩)) rfl (by kernel_rfl) (by kernel_rfl) (by kernel_rfl) (fun _ _ _ h => h) (Or.inl ⟨by kernel_rfl, ?_⟩) hS ?_
  · intro w5 hSw
    clear hSw hS
    go_simp
  simp only [Act.put, List.setIfInBounds_toArray, List.set_cons_zero, List.set_cons_succ]
  refine wpAnyH_take (i := 3) (oi := { dst := some 46, op := Go.Op.load 145 (Go.Operand.tmp 45), type := 145, pos := "note.go:116", after := #[{ on := 2, ground := Go.Ground.data }], guard := none }) (v := .agg #[.int .u8 (x0.toNat : Int), .int .u8 (x1.toNat : Int), .int .u8 (x2.toNat : Int), .int .u8 (x3.toNat : Int)]) rfl (by kernel_rfl) (by kernel_rfl) (by kernel_rfl) (fun _ _ _ h => h) (Or.inl ⟨by kernel_rfl, ?_⟩) hS ?_
  · intro w5 hSw
    have h1 := hSw.1.1
    have h2 := hSw.1.2.1
    have h3 := hSw.1.2.2.1
    have h4 := hSw.1.2.2.2
    clear hSw
    go_simp
  simp only [Act.put, List.setIfInBounds_toArray, List.set_cons_zero, List.set_cons_succ]
  refine wpAnyH_take (i := 5) (oi := { dst := some 48, op := Go.Op.move (Go.Operand.tmp 9), type := 22, pos := "note.go:116", after := #[], guard := none }) (v := .slice (some ⟨g, 0, none⟩) nl cv) rfl (by kernel_rfl) (by kernel_rfl) (by kernel_rfl) (fun _ _ _ h => h) (Or.inl ⟨by kernel_rfl, ?_⟩) hS ?_
  · intro w5 hSw
    clear hSw hS
    go_simp
  simp only [Act.put, List.setIfInBounds_toArray, List.set_cons_zero, List.set_cons_succ]
  refine wpAnyH_take (i := 6) (oi := { dst := some 49, op := Go.Op.slice 22 (Go.Operand.tmp 48) (some (Go.Operand.const (Go.Value.int Go.IntKind.i64 4))) none none, type := 22, pos := "note.go:116", after := #[{ on := 5, ground := Go.Ground.data }], guard := none }) (v := .slice sa sn sc) rfl (by kernel_rfl) (by kernel_rfl) (by kernel_rfl) (fun _ _ _ h => h) (Or.inl ⟨by kernel_rfl, ?_⟩) hS ?_
  · intro w5 hSw
    clear hSw hS
    rw [← HSD.out]; go_simp <;> (intro h; exact absurd h (by omega))
  simp only [Act.put, List.setIfInBounds_toArray, List.set_cons_zero, List.set_cons_succ]
  refine wpAnyH_ready (rs := [4]) (by kernel_rfl) (by simp) ?_
  refine AllReadyH.cons (o := { dst := some 47, op := Go.Op.call { callee := Go.Callee.value (Go.Operand.func 92), args := #[Go.Operand.tmp 46], argTypes := #[145] }, type := 63, pos := "note.go:116", after := #[{ on := 3, ground := Go.Ground.data }], guard := none }) rfl (fun K hK => ?_) AllReadyH.nil
  rw [if_pos (by kernel_rfl)]
  go_simp
  refine (hashNumber_walk x0 x1 x2 x3 _).mono ?_
  rintro e w4 ⟨rfl, u⟩
  dsimp only
  obtain ⟨hh, HHH⟩ : ∃ hh, Hid (h4 [x0, x1, x2, x3] = hh) := ⟨_, Hid.of rfl⟩
  rw [HHH.out]
  have hS2 := (show (w4.cell? ⟨g, 0, none⟩ = some (.int .u8 (x0.toNat : Int)) ∧ w4.cell? ⟨g, 1, none⟩ = some (.int .u8 (x1.toNat : Int)) ∧ w4.cell? ⟨g, 2, none⟩ = some (.int .u8 (x2.toNat : Int)) ∧ w4.cell? ⟨g, 3, none⟩ = some (.int .u8 (x3.toNat : Int))) ∧ w4.there w.heap.size 0 3 ∧ OwnN w4 w.heap.size (.slice (some ⟨g, 0, none⟩) nl cv) (x0 :: x1 :: x2 :: x3 :: x4 :: r5) ∧ Up w w4 ∧ w.heap.size < w4.heap.size from ⟨⟨u.cell hS.1.1, u.cell hS.1.2.1, u.cell hS.1.2.2.1, u.cell hS.1.2.2.2⟩, there_up hS.2.1 hS.2.2.2.2 u, hS.2.2.1.up u, hS.2.2.2.1.trans u, Nat.lt_of_lt_of_le hS.2.2.2.2 u.size⟩)
  clear hS u
  refine hK.out _ _ hS2 (fun hS => ?_)
  clear hK hS2 K
  refine wpAnyH_take (i := 7) (oi := { dst := some 50, op := Go.Op.build 113 #[(0, Go.Operand.tmp 43), (1, Go.Operand.tmp 47), (2, Go.Operand.tmp 49)], type := 113, pos := "note.go:116", after := #[{ on := 0, ground := Go.Ground.data }, { on := 4, ground := Go.Ground.data }, { on := 6, ground := Go.Ground.data }], guard := none }) (v := .agg #[.string name, .int .u32 (hh : Int), .slice sa sn sc]) rfl (by kernel_rfl) (by kernel_rfl) (by kernel_rfl) (fun _ _ _ h => h) (Or.inl ⟨by kernel_rfl, ?_⟩) hS ?_
  · intro w5 hSw
    clear hSw hS
    go_simp
  simp only [Act.put, List.setIfInBounds_toArray, List.set_cons_zero, List.set_cons_succ]
  refine wpAnyH_ready (rs := [8]) (by kernel_rfl) (by simp) ?_
  refine AllReadyH.cons (o := { dst := none, op := Go.Op.store 113 (Go.Operand.tmp 2) (Go.Operand.tmp 50), type := 0, pos := "note.go:116", after := #[{ on := 7, ground := Go.Ground.data }, { on := 4, ground := Go.Ground.chain }, { on := 0, ground := Go.Ground.phase }, { on := 1, ground := Go.Ground.phase }, { on := 2, ground := Go.Ground.phase }, { on := 3, ground := Go.Ground.phase }, { on := 4, ground := Go.Ground.phase }, { on := 5, ground := Go.Ground.phase }, { on := 6, ground := Go.Ground.phase }, { on := 7, ground := Go.Ground.phase }], guard := none }) rfl (fun K hK => ?_) AllReadyH.nil
  rw [if_pos (by kernel_rfl)]
  refine wp_store_mid _ _ _ rfl w.heap.size 0 #[.string name, .int .u32 (hh : Int), .slice sa sn sc] rfl rfl (by exact hS.2.1) infoS (by simp [Value.oneCell']) ?_
  simp only [Act.put]
  have hgl : ∀ j, (w4.setCells w.heap.size 0 [.string name, .int .u32 (hh : Int), .slice sa sn sc]).cell? ⟨g, j, none⟩ = w4.cell? ⟨g, j, none⟩ := fun j => World.cell?_setCells_out _ _ _ _ _ (fun e => absurd e hgne)
  have hS2 := (show ((w4.setCells w.heap.size 0 [.string name, .int .u32 (hh : Int), .slice sa sn sc]).cell? ⟨g, 0, none⟩ = some (.int .u8 (x0.toNat : Int)) ∧ (w4.setCells w.heap.size 0 [.string name, .int .u32 (hh : Int), .slice sa sn sc]).cell? ⟨g, 1, none⟩ = some (.int .u8 (x1.toNat : Int)) ∧ (w4.setCells w.heap.size 0 [.string name, .int .u32 (hh : Int), .slice sa sn sc]).cell? ⟨g, 2, none⟩ = some (.int .u8 (x2.toNat : Int)) ∧ (w4.setCells w.heap.size 0 [.string name, .int .u32 (hh : Int), .slice sa sn sc]).cell? ⟨g, 3, none⟩ = some (.int .u8 (x3.toNat : Int))) ∧ (w4.setCells w.heap.size 0 [.string name, .int .u32 (hh : Int), .slice sa sn sc]).there w.heap.size 0 3 ∧ OwnN (w4.setCells w.heap.size 0 [.string name, .int .u32 (hh : Int), .slice sa sn sc]) w.heap.size (.slice (some ⟨g, 0, none⟩) nl cv) (x0 :: x1 :: x2 :: x3 :: x4 :: r5) ∧ Up w (w4.setCells w.heap.size 0 [.string name, .int .u32 (hh : Int), .slice sa sn sc]) ∧ w.heap.size < (w4.setCells w.heap.size 0 [.string name, .int .u32 (hh : Int), .slice sa sn sc]).heap.size from
    ⟨⟨(hgl 0).trans hS.1.1, (hgl 1).trans hS.1.2.1, (hgl 2).trans hS.1.2.2.1, (hgl 3).trans hS.1.2.2.2⟩, World.there_setCells hS.2.1 _ _ _, hS.2.2.1.setC (fun e => hgne (by injection e)), up_setCells (Nat.le_refl _) _ 0 hS.2.2.2.1, by rw [setCells_size]; exact hS.2.2.2.2⟩)
  have HRG := Hid.of (World.rangeAt_setCells_same w4 w.heap.size 0 [.string name, .int .u32 (hh : Int), .slice sa sn sc] hS.2.1)
  clear hS hgl
  generalize w4.setCells w.heap.size 0 [.string name, .int .u32 (hh : Int), .slice sa sn sc] = w6 at *
  refine hK.out _ _ hS2 (fun hS => ?_)
  clear hK hS2 K
  refine wpAnyH_ready (rs := [9]) (by kernel_rfl) (by simp) ?_
  refine AllReadyH.cons (o := { dst := some 3, op := Go.Op.assign (Go.Operand.const (Go.Value.bool true)), type := 4, pos := "note.go:116", after := #[{ on := 8, ground := Go.Ground.chain }, { on := 0, ground := Go.Ground.phase }, { on := 1, ground := Go.Ground.phase }, { on := 2, ground := Go.Ground.phase }, { on := 3, ground := Go.Ground.phase }, { on := 4, ground := Go.Ground.phase }, { on := 5, ground := Go.Ground.phase }, { on := 6, ground := Go.Ground.phase }, { on := 7, ground := Go.Ground.phase }, { on := 8, ground := Go.Ground.phase }], guard := none }) rfl (fun K hK => ?_) AllReadyH.nil
  rw [if_pos (by kernel_rfl)]
  go_simp
  refine hK.out _ _ hS (fun hS2 => ?_)
  clear hS2 hK K
  have HZ := Hid.of hS.2.2
  clear hS
  refine wpAnyH_done (by kernel_rfl) ?_ _
  go_wp2_with fail
  refine bodyPost_ret (result_cell_tmpB Tryz.results57 _ _ w.heap.size [.string name, .int .u32 (hh : Int), .slice sa sn sc] _ rfl rfl HRG.out Tryz.underlying113 rfl infoS) rfl ?_
  have hn4 : OwnN w6 w.heap.size (.slice sa sn sc) (x4 :: r5) := by
    have := HZ.out.1.drop (k := 4) (by simp)
    rw [HSD.out] at this
    exact this
  have hs4 : Sl w6 (.slice sa sn sc) (x4 :: r5) := hn4.sl
  obtain rfl : sn = (x4 :: r5).length := by
    obtain ⟨a', c', e, _⟩ := hs4
    injection e
  have hbk : ∀ b, (Value.slice sa (x4 :: r5).length sc).ownBlock = some b → w.heap.size ≤ b ∧ b < w6.heap.size := by
    intro b hb
    have h1 : ∃ o, sa = some ⟨g, o, none⟩ := by
      have := HSD.out
      unfold sliced at this
      injection this with e1 _ _
      split at e1
      · exact ⟨_, e1.symm⟩
      · rw [Option.map_some, add_plain] at e1
        exact ⟨_, e1.symm⟩
    obtain ⟨o, rfl⟩ := h1
    injection hb with hb
    subst hb
    obtain ⟨a', c', e, _, h⟩ := hs4
    rcases h with h | ⟨b', off, e2, hb, _⟩
    · cases h
    · injection e with e1 _ _
      rw [e2] at e1
      injection e1 with e1
      injection e1 with e1 _ _
      exact ⟨Nat.le_of_lt hg0, by rw [e1]; exact hb⟩
  refine .inr ⟨⟨name, hh, x4 :: r5⟩, sa, sc, ?_, rfl, hs4, hbk, HZ.out.2.1, hn4⟩
  rw [HR.out, ← HHH.out]
  rfl
end Go.Proofs.YtaphjbcnnkoffaaGreatDoor
namespace Go.Proofs.YtaphjbcnnkoffaaGreatDoor
open Go.RowKit TextNum
/-- a list of signatures of one's own, each one's bytes too -/
def OwnL (w : World) (B : Nat) (v : Value) (qs : List (Sg × Option Addr × Nat)) : Prop := OwnG w B 113 v qs ∧ (∀ q, q ∈ qs → OwnN w B (qv q) q.1.bytes) ∧ qs.Pairwise (fun a b => ∀ k, (qv a).ownBlock = some k → (qv b).ownBlock ≠ some k)
theorem OwnN.base {w : World} {B B' : Nat} {v : Value} {l : List UInt8} (h : OwnN w B v l) (hB : B' ≤ B) : OwnN w B' v l := by
  obtain ⟨g, off, cap, cur, fr, e, hb, r⟩ := h
  exact ⟨g, off, cap, cur, fr, e, Nat.le_trans hB hb, r⟩
theorem OwnG.base {w : World} {B B' : Nat} {e : TypeId} {v : Value} {qs : List (Sg × Option Addr × Nat)} (h : OwnG w B e v qs) (hB : B' ≤ B) : OwnG w B' e v qs := by
  refine ⟨⟨h.1.1, ?_⟩, h.2⟩
  rcases h.1.2 with h | ⟨g, cap, cur, e, hb, r⟩
  · exact .inl h
  · exact .inr ⟨g, cap, cur, e, Nat.le_trans hB hb, r⟩
theorem OwnL.base {w : World} {B B' : Nat} {v : Value} {qs : List (Sg × Option Addr × Nat)} (h : OwnL w B v qs) (hB : B' ≤ B) : OwnL w B' v qs := ⟨h.1.base hB, fun q hq => (h.2.1 q hq).base hB, h.2.2⟩
theorem OwnL.up {w w' : World} {B : Nat} {v : Value} {qs : List (Sg × Option Addr × Nat)} (h : OwnL w B v qs) (u : Up w w') : OwnL w' B v qs := ⟨h.1.up u, fun q hq => (h.2.1 q hq).up u, h.2.2⟩
theorem ownL_nil (w : World) (B : Nat) : OwnL w B (.slice none 0 0) [] := ⟨⟨World.ownsRow_nil w B 113 3, by simp⟩, by simp, List.Pairwise.nil⟩
/-- what readSigLines answers -/
def RL (l : List UInt8) (w : World) (e : Ending) (w' : World) : Prop :=
  (e = .returned (.tuple #[.slice none 0 0, .bool false]) ∧ (¬ ∃ ss, Tl l ss) ∧ Up w w') ∨ ∃ v qs, e = .returned (.tuple #[v, .bool true]) ∧ Tl l (qs.map (·.1)) ∧ OwnL w' w.heap.size v qs ∧ Up w w'
theorem map_some7 {ls : List (List UInt8)} {ss : List Sg} (h : rdL ls ss) : ∀ l, l ∈ ls → rdS l ≠ none := by
  intro l hl e
  have : rdS l ∈ ls.map rdS := List.mem_map.2 ⟨l, hl, rfl⟩
  rw [h, e] at this
  simp at this
theorem linesOf_le (l x : List UInt8) (h : x ∈ linesOf l) (h0 : lnE l = 0) : x.length ≤ 1048576 := by
  have hj : joinL (linesOf l) = l ∧ l.length ≤ 1048576 := by
    unfold lnE at h0
    split at h0
    · cases h0
    · rename_i hl
      split at h0
      · exact ⟨join_lines _ (by assumption), by omega⟩
      · cases h0
  have : ∀ (xs : List (List UInt8)), x ∈ xs → x.length ≤ (joinL xs).length := by
    intro xs
    induction xs with
    | nil => intro h; cases h
    | cons y r ih =>
      intro h
      rw [joinL_cons, List.length_append, List.length_cons]
      rcases List.mem_cons.1 h with rfl | h
      · omega
      · have := ih h; omega
  have := this _ h
  rw [hj.1] at this
  omega
set_option maxRecDepth 100000 in
set_option maxHeartbeats 2000000 in
theorem readSigLines_walk (s : ByteArray) (w : World) (hT : TabL w) (hW : Go.Lib.WhiteTab 5 w) :
    Calls Tryz.prog 34 #[.string s] w (RL s.data.toList w) := by
  have HT := Hid.of hT
  have HW := Hid.of hW
  clear hT hW
  go_enter Tryz.func34, Tryz.ntmps34
  go_wp2_with fail
  refine (Lines_walkB s w).mono ?_
  rintro e w1 ⟨v1, rfl, hv1, hv2, u1⟩
  generalize s.data.toList = l at *
  have H1 := Hid.of u1
  clear u1
  dsimp only
  by_cases h0 : lnE l = 0
  rotate_left
  · have HN := Hid.of (show ¬ ∃ ss, Tl l ss from fun ⟨ss, h⟩ => h0 h.1)
    obtain rfl := hv1 h0
    have h0' : (lnE l == 0) = false := by simpa using h0
    clear hv1 hv2
    generalize lnE l = er at *
    go_wp2
    go_ret2
    exact .inl ⟨rfl, HN.out, H1.out⟩
  have hO := hv2 h0
  clear hv1 hv2
  rw [h0]
  have HLL := Hid.of (fun x h => linesOf_le l x h h0)
  have HTl := Hid.of (show ∀ ss, Tl l ss ↔ linesOf l ≠ [] ∧ (linesOf l).length ≤ 16 ∧ rdL (linesOf l) ss from fun ss => ⟨fun h => h.2, fun h => ⟨h0, h⟩⟩)
  clear h0
  generalize linesOf l = ls at *
  obtain ⟨n, hn⟩ : ∃ n, ls.length = n := ⟨_, rfl⟩
  by_cases hn0 : n = 0
  · have hls : ls = [] := List.length_eq_zero_iff.1 (by omega)
    have HN := Hid.of (show ¬ ∃ ss, Tl l ss from fun ⟨ss, h⟩ => ((HTl.out ss).1 h).1 hls)
    obtain ⟨va, vc, rfl⟩ : ∃ va vc, v1 = .slice va 0 vc := by
      rcases hO.2 with ⟨rfl, _⟩ | ⟨g, cap, cur, rfl, _⟩
      · exact ⟨_, _, rfl⟩
      · rw [hn, hn0]; exact ⟨_, _, rfl⟩
    clear hO
    go_wp2
    go_ret2
    exact .inl ⟨rfl, HN.out, H1.out⟩
  obtain ⟨g, c, rfl, hgb, hcs⟩ := hO.cell (by rintro rfl; exact hn0 hn.symm)
  rw [hn]
  have HC := Hid.of hcs
  clear hO hcs
  have hn0' : ((n : Int) == 0) = false := by simpa using hn0
  by_cases h16 : 16 < n
  · have h16' : (16 : Int) < (n : Int) := by omega
    have HN := Hid.of (show ¬ ∃ ss, Tl l ss from fun ⟨ss, h⟩ => by have := ((HTl.out ss).1 h).2.1; omega)
    go_wp2
    go_ret2
    exact .inl ⟨rfl, HN.out, H1.out⟩
  have h16' : ¬ (16 : Int) < (n : Int) := by omega
  go_wp2_with (with_reducible show wpList _ _ _ ({ dst := _, op := Op.makeSlice 52 _ _, type := _, pos := _, after := _, guard := _ } :: _) _ _; refine Shut.out ?_)
  show wpList _ _ _ _ _ _
  refine wpList_mkG rfl _ _ rfl _ _ _ n rfl rfl rfl (by omega) ?_
  intro w2 hO2 u2
  simp only [Act.put, List.setIfInBounds_toArray, List.set_cons_zero, List.set_cons_succ]
  have H2 := Hid.of (And.intro hO2 u2)
  clear hO2 u2
  go_wp2
  go_loopw [6, 33] (fun v6 v33 wr => ∃ i : Nat, v33 = .int .i64 (i : Int) ∧ i ≤ n ∧ Hid (∃ qs, OwnL wr w1.heap.size v6 qs ∧ (ls.take i).map rdS = (qs.map (·.1)).map some ∧ qs.length = i ∧ Up w1 wr)) (fun _ v33 _ => n - (intOf v33).toNat)
  case atStart => exact ⟨0, rfl, by omega, [], ⟨H2.out.1, by simp, List.Pairwise.nil⟩, by simp, rfl, H2.out.2⟩
  case round =>
    obtain ⟨i, rfl, hi, hI⟩ := hrel
    obtain ⟨qs, hI1, hI2, hI3, hI4⟩ := hI.out
    have HI := Hid.of (And.intro hI1 (And.intro hI2 (And.intro hI3 hI4)))
    clear hI hI1 hI2 hI3 hI4
    by_cases hlt : i < n
    · have hlt' : (i : Int) < (n : Int) := by omega
      have hltS : i < ls.length := by omega
      have k1 := HI.out.2.2.2.cell (HC.out i hltS)
      have HX := Hid.of (List.take_succ_eq_append_getElem hltS)
      have HM := Hid.of (List.getElem_mem hltS)
      generalize ls[i] = x at *
      go_wp2_with fail
      refine (readSigLine_walk ⟨x.toArray⟩ (by rw [Go.Lib.size_eq]; exact HLL.out x HM.out) wr (HT.out.up (H1.out.trans HI.out.2.2.2)) (WhiteTab_up HW.out (H1.out.trans HI.out.2.2.2))).mono ?_
      rintro e w3 hA
      rw [show (⟨x.toArray⟩ : ByteArray).data.toList = x from rfl] at hA
      rcases hA with ⟨hr, rfl, u3⟩ | ⟨y, a3, c3, hr, rfl, hs3, hb3, u3, hn3⟩
      · have HN := Hid.of (show (¬ ∃ ss, Tl l ss) ∧ Up w w3 from ⟨fun ⟨ss, h⟩ => map_some7 ((HTl.out ss).1 h).2.2 x HM.out hr, (H1.out.trans HI.out.2.2.2).trans u3⟩)
        clear u3 hr k1
        dsimp only
        go_wp2
        go_ret2
        exact .inl ⟨rfl, HN.out.1, HN.out.2.alloc _⟩
      · have H3 := Hid.of (And.intro hr (And.intro hs3 (And.intro hb3 u3)))
        have HN3 := Hid.of hn3
        clear hr hs3 hb3 u3 k1 hn3
        obtain ⟨nb, hnb⟩ : ∃ nb, y.bytes.length = nb := ⟨_, rfl⟩
        rw [hnb]
        dsimp only
        go_wp2_with (with_reducible show wpList _ _ _ ({ dst := _, op := Op.call { callee := Callee.builtin Builtin.append, args := _, argTypes := _ }, type := _, pos := _, after := _, guard := _ } :: _) _ _; refine Shut.out ?_)
        show wpList _ _ _ _ _ _
        subst hnb
        have UU := Hid.of (((Up.refl w3).alloc (.cells #[.string y.name, .int .u32 (y.hash : Int), .slice a3 y.bytes.length c3] 113)).alloc (.cells #[.string y.name, .int .u32 (y.hash : Int), .slice a3 y.bytes.length c3] 113))
        refine wpList_appG2 sgT1 rfl _ _ rfl w1.heap.size _ qs (y, a3, c3) rfl (by exact (HI.out.1.1.up H3.out.2.2.2).up UU.out) ⟨w3.heap.size + 1, 0, none⟩ 1 rfl ?_ (by exact H3.out.2.1.up UU.out) ?_ (by have := HI.out.2.2.1; omega) (Nat.le_trans (HI.out.2.2.2.trans H3.out.2.2.2).size UU.out.size) ?_
        · intro j u hj
          have := cells_new (w3.alloc (.cells #[.string y.name, .int .u32 (y.hash : Int), .slice a3 y.bytes.length c3] 113)) 113 (qc (y, a3, c3)) j u hj
          rw [show (w3.alloc (.cells #[.string y.name, .int .u32 (y.hash : Int), .slice a3 y.bytes.length c3] 113)).heap.size = w3.heap.size + 1 by simp] at this
          exact this
        · intro b hb
          have h1 := H3.out.2.2.1 b hb
          refine ⟨Nat.lt_of_lt_of_le h1.2 UU.out.size, fun h2 => ?_⟩
          have := (World.ownsRow.lt HI.out.1.1.1 b h2).2
          omega
        intro v7 w7 hO7 b7 g7
        simp only [Act.put, List.setIfInBounds_toArray, List.set_cons_zero, List.set_cons_succ]
        have hOL : OwnL w7 w1.heap.size v7 (qs ++ [(y, a3, c3)]) := by
          have hold := (HI.out.1.up H3.out.2.2.2).up UU.out
          refine ⟨hO7, fun q hq => ?_, ?_⟩
          · rcases List.mem_append.1 hq with hq | hq
            · exact (hold.2.1 q hq).by g7 (fun r hr hb => ((hold.1.2 q hq).2 r hb).2 hr)
            · obtain rfl := List.mem_singleton.1 hq
              refine ((HN3.out.up UU.out).base HI.out.2.2.2.size).by g7 (fun r hr hb => ?_)
              have h1 := (H3.out.2.2.1 r hb).1
              have h2 := (World.ownsRow.lt HI.out.1.1.1 r hr).2
              omega
          · rw [List.pairwise_append]
            refine ⟨hold.2.2, List.pairwise_singleton _ _, fun q hq q' hq' k hk hk' => ?_⟩
            obtain rfl := List.mem_singleton.1 hq'
            have h1 := (H3.out.2.2.1 k hk').1
            have h2 := ((HI.out.1.1.2 q hq).2 k hk).1
            omega
        have HN := Hid.of (show ∃ qs, OwnL w7 w1.heap.size v7 qs ∧ (ls.take (i + 1)).map rdS = (qs.map (·.1)).map some ∧ qs.length = i + 1 ∧ Up w1 w7 from ⟨qs ++ [(y, a3, c3)], hOL, by
          rw [HX.out, List.map_append, HI.out.2.1, List.map_append, List.map_append]
          simp [H3.out.1], by rw [List.length_append, HI.out.2.2.1]; rfl, ((HI.out.2.2.2.trans H3.out.2.2.2).trans UU.out).step (Nat.le_refl _) b7⟩)
        clear hO7 b7 g7 hOL UU H3 HX HN3
        generalize y.bytes.length = nb
        go_wp2
        go_roundw
        case rel => exact ⟨i + 1, by go_num, by omega, HN⟩
        case measure => simp [intOf]; omega
    · have hlt' : ¬ (i : Int) < (n : Int) := by omega
      have hin : i = ls.length := by omega
      go_wp2
      go_ret2
      refine .inr ⟨_, qs, rfl, (HTl.out (qs.map (·.1))).2 ⟨fun e => hn0 (by rw [← hn, e]; rfl), by omega, ?_⟩, by exact HI.out.1.base H1.out.size, H1.out.trans HI.out.2.2.2⟩
      have := HI.out.2.1
      rwa [hin, List.take_length] at this
end Go.Proofs.YtaphjbcnnkoffaaGreatDoor
namespace Go.Proofs.YtaphjbcnnkoffaaGreatDoor
open Go.RowKit TextNum
/-- what Split answers -/
def SA (m : List UInt8) (w : World) (e : Ending) (w' : World) : Prop := ∃ t v ss er, e = .returned (.tuple #[.string t, v, .int .i64 er]) ∧ SRB m t ss er ∧ SigL w' v ss ∧ Up w w'
def SA2 (m : List UInt8) (w : World) (e : Ending) (w' : World) : Prop := ∃ t v qs er, e = .returned (.tuple #[.string t, v, .int .i64 er]) ∧ SRB m t (qs.map (·.1)) er ∧ OwnL w' w.heap.size v qs ∧ Up w w' ∧ (er ≠ 0 → t = ⟨#[]⟩ ∧ v = .slice none 0 0 ∧ qs = [])
theorem SA2.sa {m : List UInt8} {w : World} {e : Ending} {w' : World} (h : SA2 m w e w') : SA m w e w' := by
  obtain ⟨t, v, qs, er, h1, h2, h3, h4, _⟩ := h
  exact ⟨t, v, qs.map (·.1), er, h1, h2, h3.1.sigL, h4⟩
theorem sigL_nil (w : World) : SigL w (.slice none 0 0) [] := ⟨none, 0, rfl, Nat.le_refl _, .inl rfl⟩
open Classical in
set_option maxRecDepth 100000 in
set_option maxHeartbeats 2000000 in
theorem Split_walk2 (v : Value) (m : List UInt8) (w : World) (hS : Sl w v m) (hT : TabL w) (hW : Go.Lib.WhiteTab 5 w) :
    Calls Tryz.prog 16 #[v] w (SA2 m w) := by
  have HT := Hid.of hT
  have HW := Hid.of hW
  have HC := Hid.of (conv_sl hS)
  clear hT hW
  obtain ⟨a, c, rfl, hc, hS⟩ := hS
  obtain ⟨n, hn⟩ : ∃ n, m.length = n := ⟨_, rfl⟩
  rw [hn] at hc HC ⊢
  clear hS
  go_enter Tryz.func16, Tryz.ntmps16
  by_cases hL : 65536 < n
  · have hL' : (65536 : Int) < (n : Int) := by omega
    go_wp2
    go_ret3
    exact ⟨_, _, [], _, rfl, .inl ⟨rfl, by omega⟩, ownL_nil _ _, Up.refl _, fun _ => ⟨rfl, rfl, rfl⟩⟩
  have hL' : ¬ (65536 : Int) < (n : Int) := by omega
  have hcv := HC.out
  rw [show vs m = .string ⟨m.toArray⟩ from rfl] at hcv
  go_wp2_with fail
  refine (Cut_walkB ⟨m.toArray⟩ w).mono ?_
  rintro e w1 ⟨r, rfl, hr, u1⟩
  have HSz := Hid.of (show (⟨m.toArray⟩ : ByteArray).size = n by rw [Go.Lib.size_eq]; exact hn)
  rcases hr with ⟨rfl, hno⟩ | ⟨i, rfl, _, hi, hb, hlast⟩
  · have HN := Hid.of (show (¬ ∃ t ss, Spl m t ss) ∧ Up w w1 from ⟨fun ⟨t, ss, j, hj, _⟩ => by
      rcases hno with h | h
      · have := HSz.out; omega
      · exact h j hj, u1⟩)
    clear hno u1
    dsimp only
    go_wp2
    go_ret3
    exact ⟨_, _, [], _, rfl, .inr (.inl ⟨rfl, by omega, HN.out.1⟩), ownL_nil _ _, HN.out.2, fun _ => ⟨rfl, rfl, rfl⟩⟩
  have e1 : (⟨m.toArray⟩ : ByteArray).extract 0 (i + 1) = ⟨(m.take (i + 1)).toArray⟩ := by
    refine ba_list7 ?_
    simp [ByteArray.data_extract]
  have e2 : (⟨m.toArray⟩ : ByteArray).extract (i + 2) (⟨m.toArray⟩ : ByteArray).size = ⟨(m.drop (i + 2)).toArray⟩ := by
    refine ba_list7 ?_
    rw [HSz.out]
    simp only [ByteArray.data_extract, List.extract_toArray, ← hn]
    rw [List.extract_eq_take_drop, List.take_of_length_le (by rw [List.length_drop]; omega)]
  rw [e1, e2]
  rw [HSz.out] at hi
  rw [show (⟨m.toArray⟩ : ByteArray).data.toList = m from rfl] at hb hlast
  clear e1 e2
  have HB := Hid.of (show (∀ t ss, Spl m t ss ↔ t.data.toList = m.take (i + 1) ∧ okT t ∧ Tl (m.drop (i + 2)) ss) ∧ Up w w1 from ⟨fun t ss => ⟨fun ⟨j, hj, hl, r⟩ => by
      obtain rfl : i = j := by
        rcases Nat.lt_trichotomy i j with h | h | h
        · exact absurd hj (hlast _ h)
        · exact h
        · exact absurd hb (hl _ h)
      exact r, fun r => ⟨i, hb, hlast, r⟩⟩, u1⟩)
  clear hb hlast u1
  obtain ⟨t, HTT⟩ : ∃ t, Hid ((⟨(m.take (i + 1)).toArray⟩ : ByteArray) = t ∧ t.data.toList = m.take (i + 1)) := ⟨_, Hid.of ⟨rfl, rfl⟩⟩
  rw [HTT.out.1]
  dsimp only
  go_wp2_with fail
  refine (isNoteText_walk t (by rw [Go.Lib.size_eq, HTT.out.2, List.length_take]; omega) w1).mono ?_
  rintro e w2 ⟨rfl, u2⟩
  have H2 := Hid.of (HB.out.2.trans u2)
  clear u2
  by_cases hk : okT t
  rotate_left
  · rw [decide_eq_false hk]
    have HN := Hid.of (show ¬ ∃ t ss, Spl m t ss from fun ⟨t', ss, h⟩ => by
      have h3 := (HB.out.1 t' ss).1 h
      obtain rfl : t' = t := ba_list7 (h3.1.trans HTT.out.2.symm)
      exact hk h3.2.1)
    clear hk
    dsimp only
    go_wp2
    go_ret3
    exact ⟨_, _, [], _, rfl, .inr (.inl ⟨rfl, by omega, HN.out⟩), ownL_nil _ _, H2.out, fun _ => ⟨rfl, rfl, rfl⟩⟩
  rw [decide_eq_true hk]
  have HK := Hid.of hk
  clear hk
  obtain ⟨tl, HTL⟩ : ∃ tl, Hid ((⟨(m.drop (i + 2)).toArray⟩ : ByteArray) = tl ∧ tl.data.toList = m.drop (i + 2)) := ⟨_, Hid.of ⟨rfl, rfl⟩⟩
  rw [HTL.out.1]
  dsimp only
  go_wp2_with fail
  refine (readSigLines_walk tl w2 (HT.out.up H2.out) (WhiteTab_up HW.out H2.out)).mono ?_
  rintro e w3 hA
  rw [HTL.out.2] at hA
  rcases hA with ⟨rfl, hno, u3⟩ | ⟨v3, qs, rfl, htl, hsl, u3⟩
  · have HN := Hid.of (show (¬ ∃ t ss, Spl m t ss) ∧ Up w w3 from ⟨fun ⟨t', ss, h⟩ => hno ⟨ss, ((HB.out.1 t' ss).1 h).2.2⟩, H2.out.trans u3⟩)
    clear hno u3
    dsimp only
    go_wp2
    go_ret3
    exact ⟨_, _, [], _, rfl, .inr (.inl ⟨rfl, by omega, HN.out.1⟩), ownL_nil _ _, HN.out.2, fun _ => ⟨rfl, rfl, rfl⟩⟩
  · have HN := Hid.of (show Spl m t (qs.map (·.1)) ∧ OwnL w3 w.heap.size v3 qs ∧ Up w w3 from ⟨(HB.out.1 t _).2 ⟨HTT.out.2, HK.out, htl⟩, hsl.base H2.out.size, H2.out.trans u3⟩)
    clear htl hsl u3
    dsimp only
    go_wp2
    go_ret3
    exact ⟨_, _, qs, _, rfl, .inr (.inr ⟨rfl, by omega, HN.out.1⟩), by exact HN.out.2.1, HN.out.2.2, fun h => absurd rfl h⟩
theorem Split_walkB (v : Value) (m : List UInt8) (w : World) (hS : Sl w v m) (hT : TabL w) (hW : Go.Lib.WhiteTab 5 w) :
    Calls Tryz.prog 16 #[v] w (SA m w) := (Split_walk2 v m w hS hT hW).mono fun _ _ h => h.sa
end Go.Proofs.YtaphjbcnnkoffaaGreatDoor
namespace Go.Proofs.YtaphjbcnnkoffaaGreatDoor
open Go.ChangeShapes Go.WideShapes Go.ChangeAt Go.WideMaps Go.WideElems Go.RowKit

theorem Tryz.own : ownKnob Tryz.prog.godebug = none := by kernel_rfl
variable {H : Type} {enc : TypeId × Value → H} {P : Program}
/-- as post_of_same, with 'not frozen' asked of what lay ahead of the call alone -/
theorem post_of_old {f : Func} {s : ChangeSpec} {apart fresh handsOn again : Bool} {W W' : World} {args : Array Value} {v : Value} {ds gs : List (DataW H)} {before pa pv : List MemPlace}
    (hW : DataW.Whole enc P f.params.toList s.vars apart W args.toList ds gs before)
    (hres : ∀ (b : Nat) (sp : Nat → Bool) (hd : Bool), DataW.TrodAll enc P W' b sp hd f.resultTypes.toList (v.resultList f.resultTypes.size) (s.fn H (ds ++ gs)).results [])
    (hargs : ∀ sp : Nat → Bool, (∀ p ∈ before, sp p.block = true) → DataW.TrodAll enc P W' 0 sp true f.params.toList args.toList (s.fn H (ds ++ gs)).args pa)
    (hvars : ∀ sp : Nat → Bool, (∀ p ∈ before, sp p.block = true) → DataW.TrodVars enc P W' sp s.vars (s.fn H (ds ++ gs)).vars pv)
    (hps : before = pa ++ pv) (hk : W.keptBut W' (· ∈ before)) (hfz : ∀ a : Addr, a.block < W.heap.size → W'.frozen? a = W.frozen? a)
    (hok : ∀ (j : Nat) (t : TypeId) (r : Value), f.resultTypes[j]? = some t → (v.resultList f.resultTypes.size)[j]? = some r → Value.okWide P W' .any 0 t r) :
    s.post enc P f apart fresh handsOn again W args v W' := by
  have hlt := fun p hp => hW.lt p hp
  have hin : ∀ p ∈ before, (fun b => decide (b < W.heap.size)) p.block = true := fun p hp => by simpa using hlt p hp
  have hW2 := hW
  obtain ⟨_, _, _, _, _, hz, hn⟩ := hW2
  refine ⟨ds, gs, before, [], pa, pv, hW, hres _ _ _, hargs _ hin, hvars _ hin, World.keptBut_mono (fun p hp => ⟨hp, Or.inr (by rw [hps, List.mem_append] at hp; exact hp)⟩) hk, fun _ => ?_⟩
  refine ⟨hok, _, _, ([] ++ pa) ++ pv, ⟨[] ++ pa, pv, trodAll_append (hargs _ (fun _ _ => rfl)) (hres _ _ _), hvars _ (fun _ _ => rfl), rfl, fun b off hp => ?_, fun ha => ?_⟩, fun p hp _ => ?_⟩
  · have hb : MemPlace.cell b off ∈ before := by rw [hps]; simpa using hp
    rw [hfz ⟨b, off, none⟩ (hlt _ hb)]
    exact hz b off hb
  · have := hn ha
    rw [hps] at this
    simpa using this
  · rw [hps]; simpa using hp
end Go.Proofs.YtaphjbcnnkoffaaGreatDoor
