import Derived.Test.YtaphjbcnnkoffaaGreatDoorTw
import Derived.Test.YtaphjbcnnkoffaaGreatDoorSn
import Derived.Laws.RangeAny
namespace Go.Proofs.YtaphjbcnnkoffaaGreatDoor
open Go.RowKit TextNum
set_option maxRecDepth 100000 in
theorem control_walk (r : Int) (w : World) : Calls Tryz.prog 89 #[.int .i32 r] w fun e w' => e = .returned (.bool ((decide (r < 32) && decide (r ≠ 10)) || decide (r = 127))) ∧ w' = w := by
  by_cases h1 : r < 32
  · by_cases h2 : r = 10
    · subst h2
      go_enter Tryz.func89, Tryz.ntmps89
      go_wp2
      go_ret
      exact ⟨by simp, rfl⟩
    · have d2 : (r == 10) = false := by simpa using h2
      have d3 : (r != 10) = true := by simpa using h2
      go_enter Tryz.func89, Tryz.ntmps89
      go_wp2
      go_ret
      exact ⟨by simp [h1, h2], rfl⟩
  · have d1 : decide (r < 32) = false := by simpa using h1
    by_cases h3 : r = 127
    · subst h3
      go_enter Tryz.func89, Tryz.ntmps89
      go_wp2
      go_ret
      exact ⟨by simp, rfl⟩
    · have d3 : (r == 127) = false := by simpa using h3
      go_enter Tryz.func89, Tryz.ntmps89
      go_wp2
      go_ret
      exact ⟨by simp, rfl⟩

set_option maxRecDepth 100000 in
theorem broken_walk (t : ByteArray) (r : Int) (w : World) : Calls Tryz.prog 88 #[.string t, .int .i32 r] w fun e w' => e = .returned (.bool (decide (r = 65533) && !Go.Lib.hasPrefix t.data.toList [239, 191, 189])) ∧ w' = w := by
  by_cases h1 : r = 65533
  · subst h1
    go_enter Tryz.func88, Tryz.ntmps88
    go_wp2_with fail
    refine Calls.mono (Go.Proofs.Any.strings_HasPrefix Tryz.lays99 t ⟨#[239, 191, 189]⟩ w) ?_
    rintro e w' ⟨rfl, hw⟩
    obtain rfl := hw.symm
    rw [show (⟨#[239, 191, 189]⟩ : ByteArray).data.toList = [239, 191, 189] from rfl]
    generalize hb : Go.Lib.hasPrefix t.data.toList [239, 191, 189] = b
    have HB := Hid.of hb
    clear hb
    dsimp only
    go_wp2
    go_ret
    rw [HB.out]
    exact ⟨by simp, rfl⟩
  · have d1 : (r == 65533) = false := by simpa using h1
    go_enter Tryz.func88, Tryz.ntmps88
    go_wp2
    go_ret
    exact ⟨by simp [h1], rfl⟩

/-- the bytes of a text from a place on, as numbers -/
theorem get_bang {s : ByteArray} {k : Nat} (h : k < s.size) : s.data.toList[k]? = some (s.get! k) := by
  have : s.get! k = s[k] := by
    simp [ByteArray.get!, getElem!_pos, h]
    rfl
  rw [this, sget' s k h, List.getElem?_eq_getElem]
theorem drop_pre {s : ByteArray} {pos : Nat} : Go.Lib.hasPrefix (s.data.toList.drop pos) [239, 191, 189] = true ↔ pos + 2 < s.size ∧ (s.get! pos).toNat = 239 ∧ (s.get! (pos + 1)).toNat = 191 ∧ (s.get! (pos + 2)).toNat = 189 := by
  unfold Go.Lib.hasPrefix
  rw [List.isPrefixOf_iff_prefix]
  constructor
  · rintro ⟨t, ht⟩
    have hl := congrArg List.length ht
    simp only [List.length_append, List.length_cons, List.length_nil, List.length_drop] at hl
    rw [← Go.Lib.size_eq] at hl
    have hk : ∀ k, k < 3 → s.data.toList[pos + k]? = ([239, 191, 189] : List UInt8)[k]? := by
      intro k hk
      rw [← List.getElem?_drop, ← ht, List.getElem?_append_left (by simpa using hk)]
    have h0 := hk 0 (by decide); have h1 := hk 1 (by decide); have h2 := hk 2 (by decide)
    rw [get_bang (by omega)] at h0 h1 h2
    simp at h0 h1 h2
    exact ⟨by omega, by rw [h0]; rfl, by rw [h1]; rfl, by rw [h2]; rfl⟩
  · rintro ⟨h3, h0, h1, h2⟩
    refine ⟨s.data.toList.drop (pos + 3), ?_⟩
    have hl := Go.Lib.size_eq s
    have e : ∀ k (hk : k < s.data.toList.length), s.data.toList[k] = s.get! k := by
      intro k hk
      have := get_bang (s := s) (k := k) (by omega)
      rw [List.getElem?_eq_getElem hk] at this
      exact Option.some.inj this
    rw [List.drop_eq_getElem_cons (i := pos) (by omega), List.drop_eq_getElem_cons (i := pos + 1) (by omega), List.drop_eq_getElem_cons (i := pos + 2) (by omega), e, e, e]
    rw [show s.get! pos = 239 from UInt8.toNat_inj.1 h0, show s.get! (pos + 1) = 191 from UInt8.toNat_inj.1 h1, show s.get! (pos + 2) = 189 from UInt8.toNat_inj.1 h2]
    rfl
/-- decoding, of the bytes as numbers -/
def dec (b0 b1 b2 b3 : Nat) (c1 c2 c3 : Bool) : Nat × Nat :=
  if b0 < 128 then (b0, 1)
  else if b0 / 32 == 6 && c1 then (if b0 % 32 * 64 + b1 % 64 ≥ 128 then (b0 % 32 * 64 + b1 % 64, 2) else (65533, 1))
  else if b0 / 16 == 14 && c1 && c2 then (if b0 % 16 * 4096 + b1 % 64 * 64 + b2 % 64 ≥ 2048 && Utf8.valid ((b0 % 16 * 4096 + b1 % 64 * 64 + b2 % 64 : Nat) : Int) then (b0 % 16 * 4096 + b1 % 64 * 64 + b2 % 64, 3) else (65533, 1))
  else if b0 / 8 == 30 && c1 && c2 && c3 then (if b0 % 8 * 262144 + b1 % 64 * 4096 + b2 % 64 * 64 + b3 % 64 ≥ 65536 && Utf8.valid ((b0 % 8 * 262144 + b1 % 64 * 4096 + b2 % 64 * 64 + b3 % 64 : Nat) : Int) then (b0 % 8 * 262144 + b1 % 64 * 4096 + b2 % 64 * 64 + b3 % 64, 4) else (65533, 1))
  else (65533, 1)
def gb (s : ByteArray) (i : Nat) : Nat := (s.get! i).toNat
def cnt (s : ByteArray) (i : Nat) : Bool := decide (i < s.size) && gb s i / 64 == 2
theorem decode_dec (s : ByteArray) (pos : Nat) : Utf8.decode s pos = dec (gb s pos) (gb s (pos + 1)) (gb s (pos + 2)) (gb s (pos + 3)) (cnt s (pos + 1)) (cnt s (pos + 2)) (cnt s (pos + 3)) := rfl
theorem gb_lt (s : ByteArray) (i : Nat) : gb s i < 256 := (s.get! i).toNat_lt
theorem valid_iff (n : Nat) : Utf8.valid (n : Int) = true ↔ n < 55296 ∨ (57344 ≤ n ∧ n ≤ 1114111) := by
  unfold Utf8.valid
  simp
  omega
theorem dec_brk {b0 b1 b2 b3 : Nat} {c1 c2 c3 : Bool} (h0 : b0 < 256) (h1 : b1 < 256) (h2 : b2 < 256) (hc1 : c1 = true → b1 / 64 = 2) (hc2 : c2 = true → b2 / 64 = 2) :
    ((dec b0 b1 b2 b3 c1 c2 c3).1 = 65533 ∧ ¬ (b0 = 239 ∧ b1 = 191 ∧ b2 = 189 ∧ c1 = true ∧ c2 = true)) ↔ dec b0 b1 b2 b3 c1 c2 c3 = (65533, 1) := by
  unfold dec
  by_cases a1 : b0 < 128
  · rw [if_pos a1]; simp; omega
  rw [if_neg a1]
  by_cases a2 : (b0 / 32 == 6 && c1) = true
  · rw [if_pos a2]
    split
    · simp; omega
    · simp only [true_and, iff_true, not_and]
      simp at a2; omega
  rw [if_neg a2]
  by_cases a3 : (b0 / 16 == 14 && c1 && c2) = true
  · rw [if_pos a3]
    simp only [Bool.and_eq_true, beq_iff_eq] at a3
    obtain ⟨⟨a4, rfl⟩, rfl⟩ := a3
    have e1 := hc1 rfl
    have e2 := hc2 rfl
    split
    · simp; omega
    · rename_i hv
      simp only [Bool.and_eq_true, decide_eq_true_eq, valid_iff] at hv
      simp only [true_and, iff_true, not_and]
      omega
  rw [if_neg a3]
  have key : ¬ (b0 = 239 ∧ b1 = 191 ∧ b2 = 189 ∧ c1 = true ∧ c2 = true) := by
    rintro ⟨rfl, rfl, rfl, rfl, rfl⟩
    exact a3 (by decide)
  by_cases a5 : (b0 / 8 == 30 && c1 && c2 && c3) = true
  · rw [if_pos a5]
    split
    · rename_i hv
      simp only [Bool.and_eq_true, decide_eq_true_eq] at hv
      have := hv.1
      simp only [Prod.mk.injEq]
      constructor
      · rintro ⟨h, _⟩; omega
      · rintro ⟨h, _⟩; omega
    · exact ⟨fun _ => rfl, fun _ => ⟨rfl, key⟩⟩
  · rw [if_neg a5]
    exact ⟨fun _ => rfl, fun _ => ⟨rfl, key⟩⟩
theorem cnt_div {s : ByteArray} {i : Nat} (h : cnt s i = true) : gb s i / 64 = 2 := by simp [cnt] at h; exact h.2
theorem brk (s : ByteArray) (pos : Nat) : (decide (((Utf8.decode s pos).1 : Int) = 65533) && !Go.Lib.hasPrefix (s.data.toList.drop pos) [239, 191, 189]) = decide (Utf8.decode s pos = (65533, 1)) := by
  rw [Bool.eq_iff_iff]
  simp only [Bool.and_eq_true, decide_eq_true_eq, Bool.not_eq_true']
  rw [← Bool.not_eq_true, drop_pre, decode_dec, ← dec_brk (gb_lt _ _) (gb_lt _ _) (gb_lt _ _) cnt_div cnt_div]
  have e : (pos + 2 < s.size ∧ (s.get! pos).toNat = 239 ∧ (s.get! (pos + 1)).toNat = 191 ∧ (s.get! (pos + 2)).toNat = 189) ↔ (gb s pos = 239 ∧ gb s (pos + 1) = 191 ∧ gb s (pos + 2) = 189 ∧ cnt s (pos + 1) = true ∧ cnt s (pos + 2) = true) := by
    unfold cnt gb
    constructor
    · rintro ⟨h1, h2, h3, h4⟩
      refine ⟨h2, h3, h4, ?_, ?_⟩
      · rw [h3]; simp; omega
      · rw [h4]; simp; omega
    · rintro ⟨h2, h3, h4, _, h5⟩
      simp at h5
      exact ⟨h5.1, h2, h3, h4⟩
  rw [e]
  constructor
  · rintro ⟨h1, h2⟩; exact ⟨by omega, h2⟩
  · rintro ⟨h1, h2⟩; exact ⟨by omega, h2⟩

/-- is the letter at pos no letter, or a control character? -/
def ctl (r : Int) : Bool := (decide (r < 32) && decide (r ≠ 10)) || decide (r = 127)
def bad (s : ByteArray) (pos : Nat) : Bool := decide (Utf8.decode s pos = (65533, 1)) || ctl ((Utf8.decode s pos).1 : Int)
def pf (s : ByteArray) : Nat → Nat → Int
  | 0, _ => 0
  | f + 1, pos => if pos < s.size then (if bad s pos then 65 else pf s f (pos + (Utf8.decode s pos).2)) else 0
def plainR (s : ByteArray) : Int := if 1048576 < s.size then 2 else pf s s.size 0
theorem dec_pos (b0 b1 b2 b3 : Nat) (c1 c2 c3 : Bool) : 1 ≤ (dec b0 b1 b2 b3 c1 c2 c3).2 := by
  unfold dec
  repeat' split
  all_goals simp
theorem pf_end {s : ByteArray} {f pos : Nat} (h : s.size ≤ pos) : pf s f pos = 0 := by
  cases f with
  | zero => rfl
  | succ f => simp only [pf]; rw [if_neg (by omega)]
theorem pf_step {s : ByteArray} {f pos : Nat} (h : pos < s.size) (hf : s.size - pos ≤ f) : ∃ f', f = f' + 1 ∧ pf s f pos = (if bad s pos then 65 else pf s f' (pos + (Utf8.decode s pos).2)) ∧ s.size - (pos + (Utf8.decode s pos).2) ≤ f' := by
  obtain ⟨f', rfl⟩ : ∃ f', f = f' + 1 := ⟨f - 1, by omega⟩
  have := dec_pos (gb s pos) (gb s (pos + 1)) (gb s (pos + 2)) (gb s (pos + 3)) (cnt s (pos + 1)) (cnt s (pos + 2)) (cnt s (pos + 3))
  rw [← decode_dec] at this
  exact ⟨f', rfl, by simp only [pf]; rw [if_pos h], by omega⟩
theorem drop_extract (s : ByteArray) (pos : Nat) : (s.extract pos s.size).data.toList = s.data.toList.drop pos := by
  rw [Go.Lib.extract_data, List.take_of_length_le (by rw [List.length_drop, ← Go.Lib.size_eq]; omega)]

set_option maxRecDepth 100000 in
theorem tooLongP_walk (s : ByteArray) (w : World) : Calls Tryz.prog 25 #[.string s] w fun e w' => e = .returned (.bool (decide (1048576 < s.size))) ∧ w' = w := by
  go_enter Tryz.func25, Tryz.ntmps25
  go_wp2
  go_ret
  refine ⟨congrArg (fun b => Ending.returned (Value.bool b)) (show decide ((1048576 : Int) < (s.size : Int)) = decide (1048576 < s.size) from ?_), rfl⟩
  rw [decide_eq_decide]
  omega
theorem up_iter (w : World) (s : ByteArray) (p : Nat) : Up w (w.iter s p) := (Up.refl w).alloc _

set_option maxRecDepth 100000 in
theorem Plain_walk (s : ByteArray) (w : World) : Calls Tryz.prog 56 #[.string s] w fun e w' => e = .returned (.int .i64 (plainR s)) ∧ Up w w' := by
  go_enter Tryz.func56, Tryz.ntmps56
  go_wp2_with fail
  refine (tooLongP_walk s w).mono ?_
  rintro e w' ⟨rfl, hw⟩
  obtain rfl := hw.symm
  dsimp only
  by_cases h1 : 1048576 < s.size
  · have d1 : decide (1048576 < s.size) = true := by simpa using h1
    have HR := Hid.of (show plainR s = 2 from if_pos h1)
    rw [d1]
    go_wp2
    go_ret
    rw [HR.out]
    exact ⟨rfl, Up.refl _⟩
  · have d1 : decide (1048576 < s.size) = false := by simpa using h1
    rw [d1]
    have hle : s.size ≤ 1048576 := by omega
    have HR := Hid.of (show plainR s = pf s s.size 0 from if_neg h1)
    clear d1 h1
    go_wp2_with fail
    go_loopw [] (fun wr => ∃ pos f : Nat, wr = w.iter s pos ∧ Hid (pf s s.size 0 = pf s f pos ∧ s.size - pos ≤ f)) (fun wr => s.size - wr.iterPos w.heap.size)
    case atStart => exact ⟨0, s.size, rfl, rfl, by omega⟩
    case round =>
      obtain ⟨pos, f, rfl, hI⟩ := hrel
      by_cases hlt : pos < s.size
      · have hnext : ∀ ty, (Instr.next (.pointer (some ⟨w.heap.size, 0, none⟩)) true ty).run Tryz.prog (w.iter s pos) = _ := fun ty => run_next_any w s pos ty hlt
        have hple : (pos : Int) ≤ (s.size : Int) := by omega
        obtain ⟨f', hf', hst, hlim⟩ := pf_step hlt hI.out.2
        have hk := brk s pos
        rw [← drop_extract] at hk
        have hwd := dec_pos (gb s pos) (gb s (pos + 1)) (gb s (pos + 2)) (gb s (pos + 3)) (cnt s (pos + 1)) (cnt s (pos + 2)) (cnt s (pos + 3))
        rw [← decode_dec] at hwd
        have hrd : bad s pos = (decide (Utf8.decode s pos = (65533, 1)) || ctl ((Utf8.decode s pos).1 : Int)) := rfl
        obtain ⟨dr, hdr⟩ : ∃ dr, dr = (Utf8.decode s pos).1 := ⟨_, rfl⟩
        obtain ⟨dw, hdw⟩ : ∃ dw, dw = (Utf8.decode s pos).2 := ⟨_, rfl⟩
        obtain ⟨be, hbe⟩ : ∃ be, be = decide (Utf8.decode s pos = (65533, 1)) := ⟨_, rfl⟩
        rw [← hdr, ← hbe] at hk hrd
        rw [← hdw] at hwd hst hlim
        simp only [← hdr, ← hdw] at hnext
        have HX := Hid.of (And.intro hst (And.intro hlim (And.intro hrd hk)))
        clear hst hlim hrd hk hdr hdw hbe hf'
        go_wp2_with fail
        refine (broken_walk (s.extract pos s.size) dr _).mono ?_
        rintro e w2 ⟨rfl, hw⟩
        obtain rfl := hw.symm
        rw [HX.out.2.2.2]
        dsimp only
        cases hbb : be with
        | true =>
          have HF := Hid.of (show plainR s = 65 by rw [HR.out, hI.out.1, HX.out.1, HX.out.2.2.1, hbb]; rfl)
          clear hbb
          go_wp2
          go_ret
          rw [HF.out]
          exact ⟨rfl, up_iter _ _ _⟩
        | false =>
          go_wp2_with fail
          refine (control_walk dr _).mono ?_
          rintro e w2 ⟨rfl, hw⟩
          obtain rfl := hw.symm
          rw [show ((decide ((dr : Int) < 32) && decide ((dr : Int) ≠ 10)) || decide ((dr : Int) = 127)) = ctl (dr : Int) from rfl]
          dsimp only
          cases hcc : ctl (dr : Int) with
          | true =>
            have HF := Hid.of (show plainR s = 65 by rw [HR.out, hI.out.1, HX.out.1, HX.out.2.2.1, hcc]; simp)
            clear hbb hcc
            go_wp2
            go_ret
            rw [HF.out]
            exact ⟨rfl, up_iter _ _ _⟩
          | false =>
            have HF := Hid.of (show pf s s.size 0 = pf s f' (pos + dw) by rw [hI.out.1, HX.out.1, HX.out.2.2.1, hcc, hbb]; rfl)
            clear hbb hcc
            go_wp2
            go_roundw
            case rel => exact ⟨pos + dw, f', rfl, HF.out, HX.out.2.1⟩
            case measure => simp; omega
      · have hnext : ∀ ty, (Instr.next (.pointer (some ⟨w.heap.size, 0, none⟩)) true ty).run Tryz.prog (w.iter s pos) = _ := fun ty => run_next_end w s pos ty hlt
        have HF := Hid.of (show plainR s = 0 by rw [HR.out, hI.out.1, pf_end (by omega)])
        go_wp2
        go_ret
        rw [HF.out]
        exact ⟨rfl, up_iter _ _ _⟩
end Go.Proofs.YtaphjbcnnkoffaaGreatDoor
