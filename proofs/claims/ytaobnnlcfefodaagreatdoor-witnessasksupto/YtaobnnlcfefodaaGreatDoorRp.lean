import Derived.Test.YtaobnnlcfefodaaGreatDoorLt2
namespace Go.Proofs.YtaobnnlcfefodaaGreatDoor
open Go.RowKit TextNum

theorem get_bang_out {s : ByteArray} {k : Nat} (h : s.size ≤ k) : s.get! k = 0 := by
  obtain ⟨d⟩ := s
  have h' : d.size ≤ k := h
  show d[k]! = 0
  rw [getElem!_neg d k (by omega)]
  rfl
theorem gb_ext (s : ByteArray) (pos k : Nat) : gb (s.extract pos s.size) k = gb s (pos + k) := by
  unfold gb
  by_cases h : pos + k < s.size
  · have h2 : k < (s.extract pos s.size).size := by simp; omega
    have e1 := get_bang h2
    have e2 := get_bang h
    rw [drop_extract, List.getElem?_drop, e2] at e1
    rw [Option.some.inj e1]
  · rw [get_bang_out (s := s.extract pos s.size) (by simp; omega), get_bang_out (s := s) (by omega)]
theorem cnt_ext (s : ByteArray) (pos k : Nat) : cnt (s.extract pos s.size) k = cnt s (pos + k) := by
  unfold cnt
  rw [gb_ext]
  congr 1
  rw [decide_eq_decide]
  simp
  omega
theorem dec_ext (s : ByteArray) (pos : Nat) : Utf8.decode (s.extract pos s.size) 0 = Utf8.decode s pos := by
  rw [decode_dec, decode_dec, gb_ext, gb_ext, gb_ext, gb_ext, cnt_ext, cnt_ext, cnt_ext]
  simp only [Nat.zero_add, Nat.add_zero]
theorem dec_low {b0 b1 b2 b3 : Nat} {c1 c2 c3 : Bool} (h : b0 < 128) : (dec b0 b1 b2 b3 c1 c2 c3) = (b0, 1) := by unfold dec; rw [if_pos h]
theorem dec_high {b0 b1 b2 b3 : Nat} {c1 c2 c3 : Bool} (h : 128 ≤ b0) : 128 ≤ (dec b0 b1 b2 b3 c1 c2 c3).1 := by
  unfold dec
  rw [if_neg (by omega)]
  split
  · split <;> simp; omega
  · split
    · split
      · rename_i hv; simp only [Bool.and_eq_true, decide_eq_true_eq] at hv; simp; omega
      · simp
    · split
      · split
        · rename_i hv; simp only [Bool.and_eq_true, decide_eq_true_eq] at hv; simp; omega
        · simp
      · simp
/-- the same, by the first byte -/
def bct (b : Nat) : Bool := decide (b = 127) || (decide (b < 32) && decide (b ≠ 10))
theorem bad_by (s : ByteArray) (pos : Nat) : bad s pos = (decide (lwd (Utf8.decode s pos) = 0) || bct (gb s pos)) := by
  unfold bad
  rw [decode_dec]
  have hp := dec_pos (gb s pos) (gb s (pos + 1)) (gb s (pos + 2)) (gb s (pos + 3)) (cnt s (pos + 1)) (cnt s (pos + 2)) (cnt s (pos + 3))
  have hl := @dec_low (gb s pos) (gb s (pos + 1)) (gb s (pos + 2)) (gb s (pos + 3)) (cnt s (pos + 1)) (cnt s (pos + 2)) (cnt s (pos + 3))
  have hh := @dec_high (gb s pos) (gb s (pos + 1)) (gb s (pos + 2)) (gb s (pos + 3)) (cnt s (pos + 1)) (cnt s (pos + 2)) (cnt s (pos + 3))
  generalize dec (gb s pos) (gb s (pos + 1)) (gb s (pos + 2)) (gb s (pos + 3)) (cnt s (pos + 1)) (cnt s (pos + 2)) (cnt s (pos + 3)) = d at *
  generalize gb s pos = b at *
  have e1 : decide (lwd d = 0) = decide (d = (65533, 1)) := by
    rw [decide_eq_decide]; unfold lwd; split
    · simp_all
    · simp_all; omega
  rw [e1]
  congr 1
  unfold ctl bct
  rw [Bool.eq_iff_iff]
  simp only [Bool.or_eq_true, Bool.and_eq_true, decide_eq_true_eq]
  by_cases hb : b < 128
  · rw [hl hb]; simp only; omega
  · have := hh (by omega); omega

set_option maxRecDepth 100000 in
theorem RPlain_walk (s : ByteArray) (w : World) : Calls Tryz.prog 54 #[.string s] w fun e w' => e = .returned (.int .i64 (plainR s)) ∧ w' = w := by
  go_enter Tryz.func54, Tryz.ntmps54
  by_cases h1 : 1048576 < s.size
  · have d1 : (1048576 : Int) < (s.size : Int) := by omega
    have HR := Hid.of (show plainR s = 2 from if_pos h1)
    go_wp2
    go_ret
    rw [HR.out]
    exact ⟨rfl, rfl⟩
  · have d1 : ¬ (1048576 : Int) < (s.size : Int) := by omega
    have hle : s.size ≤ 1048576 := by omega
    have HR := Hid.of (show plainR s = pf s s.size 0 from if_neg h1)
    clear h1
    go_wp2
    go_loop [3] (fun v3 => ∃ pos f : Nat, v3 = .int .i64 (pos : Int) ∧ pos ≤ s.size + 4 ∧ Hid (pf s s.size 0 = pf s f pos ∧ s.size - pos ≤ f)) (fun v3 => s.size + 5 - (intOf v3).toNat)
    case atStart => exact ⟨0, s.size, rfl, by omega, rfl, by omega⟩
    case round =>
      obtain ⟨pos, f, rfl, hpl, hI⟩ := hrel
      by_cases hlt : pos < s.size
      · obtain ⟨f', hf', hst, hlim⟩ := pf_step hlt hI.out.2
        have hby := bad_by s pos
        have hge : gb s pos = s[pos].toNat := (gb_get hlt).symm
        rw [hge] at hby
        have hw4 : (Utf8.decode s pos).2 ≤ 4 := by
          rw [decode_dec]; unfold dec; repeat' split
          all_goals simp
        have hw1 := dec_pos (gb s pos) (gb s (pos + 1)) (gb s (pos + 2)) (gb s (pos + 3)) (cnt s (pos + 1)) (cnt s (pos + 2)) (cnt s (pos + 3))
        rw [← decode_dec] at hw1
        have hlw : lwd (Utf8.decode s pos) = 0 ∨ lwd (Utf8.decode s pos) = (Utf8.decode s pos).2 := by unfold lwd; split <;> simp
        have hsz : 0 < (s.extract pos s.size).size := by simp; omega
        have hsz2 : (s.extract pos s.size).size ≤ 1048576 := by simp; omega
        have hcall := letter_walk (s.extract pos s.size) hsz hsz2 w
        rw [dec_ext] at hcall
        have HX := Hid.of (And.intro hst (And.intro hlim hby))
        clear hst hlim hby hf' hge
        generalize lwd (Utf8.decode s pos) = n at *
        generalize (Utf8.decode s pos).2 = dw at *
        generalize bad s pos = bd at *
        have hb0 : s[pos].toNat < 256 := s[pos].toNat_lt
        generalize hq : s[pos].toNat = b0 at *
        have hHL := Hid.of hlw
        have hHH := Hid.of hcall
        clear hlw hcall hsz hsz2
        have hple : (pos : Int) ≤ (s.size : Int) := by omega
        go_wp2_with fail
        refine hHH.out.mono ?_
        rintro e w2 ⟨rfl, hw⟩
        obtain rfl := hw.symm
        clear hHH
        dsimp only
        by_cases hn : n = 0
        · subst hn
          have HF := Hid.of (show plainR s = 65 by rw [HR.out, hI.out.1, HX.out.1, HX.out.2.2]; rfl)
          go_wp2
          go_ret
          rw [HF.out]
          exact ⟨rfl, rfl⟩
        · have hn0 : ((n : Int) == 0) = false := by simpa using hn
          obtain rfl : n = dw := hHL.out.resolve_left hn
          by_cases h127 : b0 = 127
          · subst h127
            have HF := Hid.of (show plainR s = 65 by rw [HR.out, hI.out.1, HX.out.1, HX.out.2.2]; simp [bct])
            go_wp2
            go_ret
            rw [HF.out]
            exact ⟨rfl, rfl⟩
          · have e127 : ((b0 : Int) == 127) = false := by simp; omega
            by_cases h32 : b0 < 32
            · have e32 : decide ((b0 : Int) < 32) = true := by simp; omega
              have e32' : (b0 : Int) < 32 := by omega
              by_cases h10 : b0 = 10
              · subst h10
                have HF := Hid.of (show pf s s.size 0 = pf s f' (pos + n) by rw [hI.out.1, HX.out.1, HX.out.2.2]; simp [bct, hn])
                go_wp2
                go_round
                case rel => exact ⟨pos + n, f', by go_num, by omega, HF.out, HX.out.2.1⟩
                case measure => simp [intOf]; omega
              · have e10 : ((b0 : Int) != 10) = true := by simp; omega
                have HF := Hid.of (show plainR s = 65 by rw [HR.out, hI.out.1, HX.out.1, HX.out.2.2]; simp [bct, h32, h10])
                go_wp2
                go_ret
                rw [HF.out]
                exact ⟨rfl, rfl⟩
            · have e32 : decide ((b0 : Int) < 32) = false := by simp; omega
              have HF := Hid.of (show pf s s.size 0 = pf s f' (pos + n) by rw [hI.out.1, HX.out.1, HX.out.2.2]; simp [bct, hn, h127, h32])
              go_wp2
              go_round
              case rel => exact ⟨pos + n, f', by go_num, by omega, HF.out, HX.out.2.1⟩
              case measure => simp [intOf]; omega
      · have HF := Hid.of (show plainR s = 0 by rw [HR.out, hI.out.1, pf_end (by omega)])
        have hlt' : ¬ (pos : Int) < (s.size : Int) := by omega
        go_wp2
        go_ret
        rw [HF.out]
        exact ⟨rfl, rfl⟩
end Go.Proofs.YtaobnnlcfefodaaGreatDoor
