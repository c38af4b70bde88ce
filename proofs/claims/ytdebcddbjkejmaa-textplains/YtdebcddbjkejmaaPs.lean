import Derived.Test.YtdebcddbjkejmaaRp
namespace Go.Proofs.Ytdebcddbjkejmaa
open Go.RowKit TextNum

theorem dec_agree {b0 b1 b2 b3 d1 d2 d3 : Nat} {c1 c2 c3 e1 e2 e3 : Bool} (h1 : c1 = true → d1 = b1 ∧ e1 = true) (h2 : c2 = true → d2 = b2 ∧ e2 = true) (h3 : c3 = true → d3 = b3 ∧ e3 = true)
    (hne : dec b0 b1 b2 b3 c1 c2 c3 ≠ (65533, 1)) : dec b0 d1 d2 d3 e1 e2 e3 = dec b0 b1 b2 b3 c1 c2 c3 := by
  unfold dec at hne ⊢
  by_cases a0 : b0 < 128
  · rw [if_pos a0, if_pos a0]
  rw [if_neg a0] at hne ⊢
  rw [if_neg a0]
  by_cases a2 : (b0 / 32 == 6 && c1) = true
  · rw [if_pos a2] at hne ⊢
    simp only [Bool.and_eq_true, beq_iff_eq] at a2
    obtain ⟨rfl, rfl⟩ := h1 a2.2
    rw [if_pos (by simp [a2.1])]
  rw [if_neg a2] at hne ⊢
  by_cases a3 : (b0 / 16 == 14 && c1 && c2) = true
  · rw [if_pos a3] at hne ⊢
    simp only [Bool.and_eq_true, beq_iff_eq] at a3
    obtain ⟨rfl, rfl⟩ := h1 a3.1.2
    obtain ⟨rfl, rfl⟩ := h2 a3.2
    rw [if_neg (by simp; omega), if_pos (by simp [a3.1.1])]
  rw [if_neg a3] at hne ⊢
  by_cases a4 : (b0 / 8 == 30 && c1 && c2 && c3) = true
  · rw [if_pos a4] at hne ⊢
    simp only [Bool.and_eq_true, beq_iff_eq] at a4
    obtain ⟨rfl, rfl⟩ := h1 a4.1.1.2
    obtain ⟨rfl, rfl⟩ := h2 a4.1.2
    obtain ⟨rfl, rfl⟩ := h3 a4.2
    rw [if_neg (by simp; omega), if_neg (by simp; omega), if_pos (by simp [a4.1.1.1])]
  rw [if_neg a4] at hne
  exact absurd rfl hne
theorem dec_width {b0 b1 b2 b3 : Nat} {c1 c2 c3 : Bool} : (dec b0 b1 b2 b3 c1 c2 c3).2 ≤ 4 ∧ (2 ≤ (dec b0 b1 b2 b3 c1 c2 c3).2 → c1 = true) ∧ (3 ≤ (dec b0 b1 b2 b3 c1 c2 c3).2 → c2 = true) ∧ (4 ≤ (dec b0 b1 b2 b3 c1 c2 c3).2 → c3 = true) := by
  unfold dec
  by_cases a0 : b0 < 128
  · rw [if_pos a0]; simp
  rw [if_neg a0]
  by_cases a2 : (b0 / 32 == 6 && c1) = true
  · rw [if_pos a2]
    simp only [Bool.and_eq_true] at a2
    split <;> simp [a2.2]
  rw [if_neg a2]
  by_cases a3 : (b0 / 16 == 14 && c1 && c2) = true
  · rw [if_pos a3]
    simp only [Bool.and_eq_true] at a3
    split <;> simp [a3.1.2, a3.2]
  rw [if_neg a3]
  by_cases a4 : (b0 / 8 == 30 && c1 && c2 && c3) = true
  · rw [if_pos a4]
    simp only [Bool.and_eq_true] at a4
    split <;> simp [a4.1.1.2, a4.1.2, a4.2]
  rw [if_neg a4]; simp
theorem cnt_size {s : ByteArray} {i : Nat} (h : cnt s i = true) : i < s.size := by simp [cnt] at h; exact h.1
theorem app_size (a b : ByteArray) : (a ++ b).size = a.size + b.size := by simp
theorem app_list (a b : ByteArray) : (a ++ b).data.toList = a.data.toList ++ b.data.toList := by simp
theorem gb_list {s : ByteArray} {i : Nat} (h : i < s.size) : s.data.toList[i]? = some (s.get! i) := get_bang h
theorem gb_left {a b : ByteArray} {i : Nat} (h : i < a.size) : gb (a ++ b) i = gb a i := by
  have e1 := get_bang (s := a ++ b) (k := i) (by rw [app_size]; omega)
  have e2 := get_bang h
  rw [app_list, List.getElem?_append_left (by rw [← Go.Lib.size_eq]; exact h), e2] at e1
  unfold gb
  rw [Option.some.inj e1]
theorem gb_right {a b : ByteArray} {i : Nat} : gb (a ++ b) (a.size + i) = gb b i := by
  unfold gb
  by_cases h : i < b.size
  · have e1 := get_bang (s := a ++ b) (k := a.size + i) (by rw [app_size]; omega)
    have e2 := get_bang h
    rw [app_list, List.getElem?_append_right (by rw [← Go.Lib.size_eq]; omega), ← Go.Lib.size_eq, Nat.add_sub_cancel_left, e2] at e1
    rw [Option.some.inj e1]
  · rw [get_bang_out (s := a ++ b) (by rw [app_size]; omega), get_bang_out (s := b) (by omega)]
theorem cnt_right {a b : ByteArray} {i : Nat} : cnt (a ++ b) (a.size + i) = cnt b i := by
  unfold cnt
  rw [gb_right, app_size]
  congr 1
  rw [decide_eq_decide]; omega
theorem cnt_left {a b : ByteArray} {i : Nat} (h : cnt a i = true) : gb (a ++ b) i = gb a i ∧ cnt (a ++ b) i = true := by
  have hs := cnt_size h
  have hg := gb_left (b := b) hs
  refine ⟨hg, ?_⟩
  unfold cnt at h ⊢
  rw [hg, app_size]
  simp only [Bool.and_eq_true, decide_eq_true_eq] at h ⊢
  exact ⟨by omega, h.2⟩
theorem decode_right (a b : ByteArray) (i : Nat) : Utf8.decode (a ++ b) (a.size + i) = Utf8.decode b i := by
  rw [decode_dec, decode_dec]
  simp only [Nat.add_assoc, gb_right, cnt_right]
theorem decode_left {a b : ByteArray} {i : Nat} (h : i < a.size) (hne : Utf8.decode a i ≠ (65533, 1)) : Utf8.decode (a ++ b) i = Utf8.decode a i := by
  rw [decode_dec] at hne
  rw [decode_dec, decode_dec, gb_left h]
  exact dec_agree cnt_left cnt_left cnt_left hne
theorem decode_fits {a : ByteArray} {i : Nat} (h : i < a.size) : i + (Utf8.decode a i).2 ≤ a.size := by
  rw [decode_dec]
  obtain ⟨w4, w1, w2, w3⟩ := @dec_width (gb a i) (gb a (i + 1)) (gb a (i + 2)) (gb a (i + 3)) (cnt a (i + 1)) (cnt a (i + 2)) (cnt a (i + 3))
  generalize (dec (gb a i) (gb a (i + 1)) (gb a (i + 2)) (gb a (i + 3)) (cnt a (i + 1)) (cnt a (i + 2)) (cnt a (i + 3))).2 = w at *
  rcases Nat.lt_or_ge w 2 with h2 | h2
  · omega
  rcases Nat.lt_or_ge w 3 with h3 | h3
  · have := cnt_size (w1 h2); omega
  rcases Nat.lt_or_ge w 4 with h4 | h4
  · have := cnt_size (w2 h3); omega
  · have := cnt_size (w3 h4); omega
theorem decode_in {a : ByteArray} {i j : Nat} (h1 : i < j) (h2 : j < i + (Utf8.decode a i).2) : cnt a j = true := by
  rw [decode_dec] at h2
  obtain ⟨w4, w1, w2, w3⟩ := @dec_width (gb a i) (gb a (i + 1)) (gb a (i + 2)) (gb a (i + 3)) (cnt a (i + 1)) (cnt a (i + 2)) (cnt a (i + 3))
  generalize (dec (gb a i) (gb a (i + 1)) (gb a (i + 2)) (gb a (i + 3)) (cnt a (i + 1)) (cnt a (i + 2)) (cnt a (i + 3))).2 = w at *
  have : j = i + 1 ∨ j = i + 2 ∨ j = i + 3 := by omega
  rcases this with rfl | rfl | rfl
  · exact w1 (by omega)
  · exact w2 (by omega)
  · exact w3 (by omega)
theorem bad_not {s : ByteArray} {pos : Nat} (h : bad s pos = false) : Utf8.decode s pos ≠ (65533, 1) := by
  intro e
  unfold bad at h
  rw [e] at h
  simp at h
theorem pf_zero {s : ByteArray} {f pos : Nat} (hp : pos < s.size) (hf : s.size - pos ≤ f) (h : pf s f pos = 0) : bad s pos = false ∧ ∃ f', f = f' + 1 ∧ s.size - (pos + (Utf8.decode s pos).2) ≤ f' ∧ pf s f' (pos + (Utf8.decode s pos).2) = 0 := by
  obtain ⟨f', e, hst, hlim⟩ := pf_step hp hf
  rw [hst] at h
  cases hb : bad s pos with
  | true => rw [hb] at h; simp at h
  | false => rw [hb] at h; exact ⟨rfl, f', e, hlim, by simpa using h⟩
theorem pf_more {s : ByteArray} : ∀ {f pos : Nat} (g : Nat), s.size - pos ≤ f → s.size - pos ≤ g → pf s f pos = pf s g pos := by
  intro f
  induction f with
  | zero => intro pos g h1 _; rw [pf_end (by omega), pf_end (by omega)]
  | succ f ih =>
    intro pos g h1 h2
    rcases Nat.lt_or_ge pos s.size with hp | hp
    · obtain ⟨f', e, hst, hlim⟩ := pf_step hp h1
      obtain ⟨g', e', hst', hlim'⟩ := pf_step hp h2
      obtain rfl : f = f' := by omega
      rw [hst, hst', ih g' hlim hlim']
    · rw [pf_end hp, pf_end hp]
theorem pf_right (a b : ByteArray) : ∀ (f k : Nat), b.size - k ≤ f → pf (a ++ b) f (a.size + k) = pf b f k := by
  intro f
  induction f with
  | zero => intro k h; rw [pf_end (by rw [app_size]; omega), pf_end (by omega)]
  | succ f ih =>
    intro k h
    rcases Nat.lt_or_ge k b.size with hp | hp
    · obtain ⟨f', e, hst, hlim⟩ := pf_step hp h
      obtain ⟨g', e', hst', hlim'⟩ := pf_step (s := a ++ b) (pos := a.size + k) (f := f + 1) (by rw [app_size]; omega) (by rw [app_size]; omega)
      obtain rfl : f = f' := by omega
      obtain rfl : f = g' := by omega
      have hb : bad (a ++ b) (a.size + k) = bad b k := by unfold bad; rw [decode_right]
      rw [hst, hst', hb, decode_right, Nat.add_assoc, ih _ hlim]
    · rw [pf_end (by rw [app_size]; omega), pf_end hp]
theorem pf_join (a b : ByteArray) (hb : pf b b.size 0 = 0) : ∀ (f pos : Nat), pos ≤ a.size → a.size - pos ≤ f → pf a f pos = 0 → pf (a ++ b) (f + b.size) pos = 0 := by
  intro f
  induction f with
  | zero =>
    intro pos h1 h2 _
    obtain rfl : pos = a.size := by omega
    have := pf_right a b (0 + b.size) 0 (by omega)
    rw [Nat.add_zero] at this
    rw [this, Nat.zero_add]
    exact hb
  | succ f ih =>
    intro pos h1 h2 h
    rcases Nat.lt_or_ge pos a.size with hp | hp
    · obtain ⟨hbd, f', e, hlim, h0⟩ := pf_zero hp h2 h
      obtain rfl : f = f' := by omega
      obtain ⟨g', e', hst', hlim'⟩ := pf_step (s := a ++ b) (pos := pos) (f := f + 1 + b.size) (by rw [app_size]; omega) (by rw [app_size]; omega)
      have hd := decode_left (b := b) hp (bad_not hbd)
      have hbd' : bad (a ++ b) pos = false := by unfold bad at hbd ⊢; rw [hd]; exact hbd
      rw [hst', hbd', hd]
      have := ih _ (decode_fits hp) hlim h0
      rw [show g' = f + b.size by omega]
      simpa using this
    · obtain rfl : pos = a.size := by omega
      have := pf_right a b (f + 1 + b.size) 0 (by omega)
      rw [show a.size + 0 = a.size from rfl] at this
      rw [this, pf_more (s := b) (f := f + 1 + b.size) (pos := 0) b.size (by omega) (by omega)]
      exact hb
theorem plain_join {a b : ByteArray} (ha : plainR a = 0) (hb : plainR b = 0) (hs : a.size + b.size ≤ 1048576) : plainR (a ++ b) = 0 := by
  unfold plainR at ha hb ⊢
  rw [if_neg (by omega)] at ha hb
  rw [if_neg (by rw [app_size]; omega), app_size]
  exact pf_join a b hb a.size 0 (by omega) (by omega) ha
/-- a control character is found -/
theorem pf_ctl {a : ByteArray} {i : Nat} (hi : i < a.size) (hc : bct (gb a i) = true) : ∀ f pos : Nat, pos ≤ i → a.size - pos ≤ f → pf a f pos ≠ 0 := by
  intro f
  induction f with
  | zero => intro pos h1 h2; omega
  | succ f ih =>
    intro pos h1 h2 h
    obtain ⟨hbd, f', e, hlim, h0⟩ := pf_zero (show pos < a.size by omega) h2 h
    obtain rfl : f = f' := by omega
    rcases Nat.lt_or_ge pos i with hp | hp
    · rcases Nat.lt_or_ge i (pos + (Utf8.decode a pos).2) with hw | hw
      · have := cnt_div (decode_in hp hw)
        unfold bct at hc
        simp only [Bool.or_eq_true, Bool.and_eq_true, decide_eq_true_eq] at hc
        omega
      · exact ih _ hw hlim h0
    · obtain rfl : pos = i := by omega
      rw [bad_by, hc] at hbd
      simp at hbd
def sm (a : ByteArray) : Nat → Bool
  | 0 => true
  | i + 1 => sm a i && decide (gb a i < 128)
def ct (a : ByteArray) : Nat → Bool
  | 0 => false
  | i + 1 => ct a i || bct (gb a i)
theorem sm_all {a : ByteArray} : ∀ {n : Nat}, sm a n = true → ∀ i, i < n → gb a i < 128
  | 0, _, i, h => by omega
  | n + 1, h, i, hi => by
    simp only [sm, Bool.and_eq_true, decide_eq_true_eq] at h
    rcases Nat.lt_or_ge i n with h1 | h1
    · exact sm_all h.1 i h1
    · obtain rfl : i = n := by omega
      exact h.2
theorem ct_no {a : ByteArray} : ∀ {n : Nat}, ct a n = false → ∀ i, i < n → bct (gb a i) = false
  | 0, _, i, h => by omega
  | n + 1, h, i, hi => by
    simp only [ct, Bool.or_eq_false_iff] at h
    rcases Nat.lt_or_ge i n with h1 | h1
    · exact ct_no h.1 i h1
    · obtain rfl : i = n := by omega
      exact h.2
theorem ct_yes {a : ByteArray} : ∀ {n : Nat}, ct a n = true → ∃ i, i < n ∧ bct (gb a i) = true
  | 0, h => by cases h
  | n + 1, h => by
    simp only [ct, Bool.or_eq_true] at h
    rcases h with h | h
    · obtain ⟨i, h1, h2⟩ := ct_yes h; exact ⟨i, by omega, h2⟩
    · exact ⟨n, by omega, h⟩
theorem pf_small {a : ByteArray} (h1 : ∀ i, i < a.size → gb a i < 128) (h2 : ∀ i, i < a.size → bct (gb a i) = false) : ∀ f pos, a.size - pos ≤ f → pf a f pos = 0 := by
  intro f
  induction f with
  | zero => intro pos h; exact pf_end (by omega)
  | succ f ih =>
    intro pos h
    rcases Nat.lt_or_ge pos a.size with hp | hp
    · obtain ⟨f', e, hst, hlim⟩ := pf_step hp h
      obtain rfl : f = f' := by omega
      have hb : bad a pos = false := by
        rw [bad_by, h2 pos hp, decode_dec, dec_one (h1 pos hp)]; rfl
      rw [hst, hb]
      simpa using ih _ hlim
    · exact pf_end hp
theorem plain_long {a : ByteArray} (h : 1048576 < a.size) : plainR a = 2 := if_pos h
theorem plain_small {a : ByteArray} (h : ¬ 1048576 < a.size) (hs : sm a a.size = true) (hc : ct a a.size = false) : plainR a = 0 := by
  unfold plainR; rw [if_neg h]; exact pf_small (sm_all hs) (ct_no hc) _ _ (by omega)
theorem plain_ctl {a : ByteArray} (h : ¬ 1048576 < a.size) (hc : ct a a.size = true) : plainR a ≠ 0 := by
  unfold plainR; rw [if_neg h]
  obtain ⟨i, h1, h2⟩ := ct_yes hc
  exact pf_ctl h1 h2 _ _ (by omega) (by omega)

set_option maxRecDepth 100000 in
set_option maxHeartbeats 1000000 in
theorem plains_walk (a b : ByteArray) (w : World) : Calls Try.prog 3 #[.string a, .string b] w fun e w' => e = .returned (.bool true) ∧ Up w w' := by
  go_enter Try.func3, Try.ntmps3
  go_wp2_with fail
  refine (Plain_walk a w).mono ?_
  rintro e w1 ⟨rfl, hu1⟩
  have H1 := Hid.of hu1
  clear hu1
  dsimp only
  go_wp2_with fail
  refine (Plain_walk b w1).mono ?_
  rintro e w2 ⟨rfl, hu2⟩
  have H2 := Hid.of (H1.out.trans hu2)
  clear hu2 H1
  dsimp only
  have HA := Hid.of (And.intro (@plain_long a) (And.intro (@plain_small a) (@plain_ctl a)))
  have hl0 : plainR a = 0 → a.size ≤ 1048576 := fun h => Nat.le_of_not_lt fun hl => by rw [plain_long hl] at h; cases h
  have hl1 : plainR b = 0 → b.size ≤ 1048576 := fun h => Nat.le_of_not_lt fun hl => by rw [plain_long hl] at h; cases h
  have HJ := Hid.of (@plain_join a b)
  have HL := Hid.of (And.intro hl0 hl1)
  clear hl0 hl1
  generalize plainR a = r at *
  generalize plainR b = q at *
  by_cases h0 : r = 0
  · have hr0 : (r == 0) = true := by simpa using h0
    have hal := HL.out.1 h0
    by_cases h1 : q = 0
    · have hq0 : (q == 0) = true := by simpa using h1
      have hbl := HL.out.2 h1
      by_cases ht : a.size + b.size ≤ 1048576
      · have t1 : (a.size : Int) + (b.size : Int) ≤ 1048576 := by omega
        have HP := Hid.of (HJ.out h0 h1 ht)
        have hab : (a ++ b).size ≤ 1048576 := by rw [app_size]; exact ht
        subst h0 h1
        go_wp2_with fail
        refine (Plain_walk (a ++ b) w2).mono ?_
        rintro e w3 ⟨rfl, hu3⟩
        have HW := Hid.of (H2.out.trans hu3)
        clear hu3
        rw [HP.out]
        dsimp only
        have hlg : ¬ 1048576 < a.size := by omega
        · have g1 : ¬ (1048576 : Int) < (a.size : Int) := by omega
          go_wp2
          go_loop [8, 9, 10] (fun v8 v9 v10 => ∃ i : Nat, v10 = .int .i64 (i : Int) ∧ i ≤ a.size ∧ v8 = .bool (sm a i) ∧ v9 = .bool (ct a i)) (fun _ _ v10 => a.size - (intOf v10).toNat)
          case atStart => exact ⟨0, rfl, by omega, rfl, rfl⟩
          case round =>
            obtain ⟨i, rfl, hi, rfl, rfl⟩ := hrel
            by_cases hlt : i < a.size
            · have hlt' : (i : Int) < (a.size : Int) := by omega
              have hge := gb_get hlt
              have HS := Hid.of (show sm a (i + 1) = (sm a i && decide (a[i].toNat < 128)) ∧ ct a (i + 1) = (ct a i || bct a[i].toNat) from ⟨by rw [hge]; rfl, by rw [hge]; rfl⟩)
              clear hge
              have hb0 : a[i].toNat < 256 := a[i].toNat_lt
              generalize sm a i = S at *
              generalize ct a i = C at *
              by_cases h128 : 128 ≤ a[i].toNat
              · have e1 : (128 : Int) ≤ (a[i].toNat : Int) := by omega
                have e2 : ((a[i].toNat : Int) == 127) = false := by simp; omega
                have e3 : decide ((a[i].toNat : Int) < 32) = false := by simp; omega
                have HX := Hid.of (show sm a (i + 1) = false ∧ ct a (i + 1) = C from ⟨by rw [HS.out.1]; simp; intros; omega, by rw [HS.out.2]; unfold bct; simp; intros; omega⟩)
                clear h128
                go_wp2
                go_round
                case rel => exact ⟨i + 1, by go_num, by omega, by rw [HX.out.1], by rw [HX.out.2]⟩
                case measure => simp [intOf]; omega
              · have e1 : ¬ (128 : Int) ≤ (a[i].toNat : Int) := by omega
                by_cases h127 : a[i].toNat = 127
                · have e2 : ((a[i].toNat : Int) == 127) = true := by simp; omega
                  have HX := Hid.of (show sm a (i + 1) = S ∧ ct a (i + 1) = true from ⟨by rw [HS.out.1]; simp; intros; omega, by rw [HS.out.2]; unfold bct; simp [h127]⟩)
                  clear h127 h128
                  go_wp2
                  go_round
                  case rel => exact ⟨i + 1, by go_num, by omega, by rw [HX.out.1], by rw [HX.out.2]⟩
                  case measure => simp [intOf]; omega
                · have e2 : ((a[i].toNat : Int) == 127) = false := by simp; omega
                  by_cases h32 : a[i].toNat < 32
                  · have e3 : decide ((a[i].toNat : Int) < 32) = true := by simp; omega
                    have e3' : (a[i].toNat : Int) < 32 := by omega
                    by_cases h10 : a[i].toNat = 10
                    · have e4 : ((a[i].toNat : Int) != 10) = false := by simp; omega
                      have HX := Hid.of (show sm a (i + 1) = S ∧ ct a (i + 1) = C from ⟨by rw [HS.out.1]; simp; intros; omega, by rw [HS.out.2]; unfold bct; simp [h10]⟩)
                      clear h127 h128 h32 h10
                      go_wp2
                      go_round
                      case rel => exact ⟨i + 1, by go_num, by omega, by rw [HX.out.1], by rw [HX.out.2]⟩
                      case measure => simp [intOf]; omega
                    · have e4 : ((a[i].toNat : Int) != 10) = true := by simp; omega
                      have HX := Hid.of (show sm a (i + 1) = S ∧ ct a (i + 1) = true from ⟨by rw [HS.out.1]; simp; intros; omega, by rw [HS.out.2]; unfold bct; simp [h32, h10]⟩)
                      clear h127 h128 h32 h10
                      go_wp2
                      go_round
                      case rel => exact ⟨i + 1, by go_num, by omega, by rw [HX.out.1], by rw [HX.out.2]⟩
                      case measure => simp [intOf]; omega
                  · have e3 : decide ((a[i].toNat : Int) < 32) = false := by simp; omega
                    have HX := Hid.of (show sm a (i + 1) = S ∧ ct a (i + 1) = C from ⟨by rw [HS.out.1]; simp; intros; omega, by rw [HS.out.2]; unfold bct; simp; intros; omega⟩)
                    clear h127 h128 h32
                    go_wp2
                    go_round
                    case rel => exact ⟨i + 1, by go_num, by omega, by rw [HX.out.1], by rw [HX.out.2]⟩
                    case measure => simp [intOf]; omega
            · have hie : i = a.size := by omega
              have hlt' : ¬ (i : Int) < (a.size : Int) := by omega
              have HE := Hid.of (And.intro (HA.out.2.1 hlg) (HA.out.2.2 hlg))
              rw [← hie] at HE
              clear hie hlt hlg
              generalize sm a i = S at *
              generalize ct a i = C at *
              cases C with
              | true =>
                exact absurd rfl (HE.out.2 rfl)
              | false =>
                cases S with
                | true =>
                  go_wp2
                  go_ret
                  exact ⟨by simp, HW.out⟩
                | false =>
                  go_wp2
                  go_ret
                  exact ⟨by simp, HW.out⟩
      · have t1 : ¬ (a.size : Int) + (b.size : Int) ≤ 1048576 := by omega
        have t2 : decide ((a.size : Int) + (b.size : Int) ≤ 1048576) = false := by simp; omega
        have HW := H2
        clear ht
        by_cases hlg : 1048576 < a.size
        · have g1 : (1048576 : Int) < (a.size : Int) := by omega
          obtain rfl : r = 2 := HA.out.1 hlg
          go_wp2
          go_ret
          exact ⟨by simp, HW.out⟩
        · have g1 : ¬ (1048576 : Int) < (a.size : Int) := by omega
          go_wp2
          go_loop [8, 9, 10] (fun v8 v9 v10 => ∃ i : Nat, v10 = .int .i64 (i : Int) ∧ i ≤ a.size ∧ v8 = .bool (sm a i) ∧ v9 = .bool (ct a i)) (fun _ _ v10 => a.size - (intOf v10).toNat)
          case atStart => exact ⟨0, rfl, by omega, rfl, rfl⟩
          case round =>
            obtain ⟨i, rfl, hi, rfl, rfl⟩ := hrel
            by_cases hlt : i < a.size
            · have hlt' : (i : Int) < (a.size : Int) := by omega
              have hge := gb_get hlt
              have HS := Hid.of (show sm a (i + 1) = (sm a i && decide (a[i].toNat < 128)) ∧ ct a (i + 1) = (ct a i || bct a[i].toNat) from ⟨by rw [hge]; rfl, by rw [hge]; rfl⟩)
              clear hge
              have hb0 : a[i].toNat < 256 := a[i].toNat_lt
              generalize sm a i = S at *
              generalize ct a i = C at *
              by_cases h128 : 128 ≤ a[i].toNat
              · have e1 : (128 : Int) ≤ (a[i].toNat : Int) := by omega
                have e2 : ((a[i].toNat : Int) == 127) = false := by simp; omega
                have e3 : decide ((a[i].toNat : Int) < 32) = false := by simp; omega
                have HX := Hid.of (show sm a (i + 1) = false ∧ ct a (i + 1) = C from ⟨by rw [HS.out.1]; simp; intros; omega, by rw [HS.out.2]; unfold bct; simp; intros; omega⟩)
                clear h128
                go_wp2
                go_round
                case rel => exact ⟨i + 1, by go_num, by omega, by rw [HX.out.1], by rw [HX.out.2]⟩
                case measure => simp [intOf]; omega
              · have e1 : ¬ (128 : Int) ≤ (a[i].toNat : Int) := by omega
                by_cases h127 : a[i].toNat = 127
                · have e2 : ((a[i].toNat : Int) == 127) = true := by simp; omega
                  have HX := Hid.of (show sm a (i + 1) = S ∧ ct a (i + 1) = true from ⟨by rw [HS.out.1]; simp; intros; omega, by rw [HS.out.2]; unfold bct; simp [h127]⟩)
                  clear h127 h128
                  go_wp2
                  go_round
                  case rel => exact ⟨i + 1, by go_num, by omega, by rw [HX.out.1], by rw [HX.out.2]⟩
                  case measure => simp [intOf]; omega
                · have e2 : ((a[i].toNat : Int) == 127) = false := by simp; omega
                  by_cases h32 : a[i].toNat < 32
                  · have e3 : decide ((a[i].toNat : Int) < 32) = true := by simp; omega
                    have e3' : (a[i].toNat : Int) < 32 := by omega
                    by_cases h10 : a[i].toNat = 10
                    · have e4 : ((a[i].toNat : Int) != 10) = false := by simp; omega
                      have HX := Hid.of (show sm a (i + 1) = S ∧ ct a (i + 1) = C from ⟨by rw [HS.out.1]; simp; intros; omega, by rw [HS.out.2]; unfold bct; simp [h10]⟩)
                      clear h127 h128 h32 h10
                      go_wp2
                      go_round
                      case rel => exact ⟨i + 1, by go_num, by omega, by rw [HX.out.1], by rw [HX.out.2]⟩
                      case measure => simp [intOf]; omega
                    · have e4 : ((a[i].toNat : Int) != 10) = true := by simp; omega
                      have HX := Hid.of (show sm a (i + 1) = S ∧ ct a (i + 1) = true from ⟨by rw [HS.out.1]; simp; intros; omega, by rw [HS.out.2]; unfold bct; simp [h32, h10]⟩)
                      clear h127 h128 h32 h10
                      go_wp2
                      go_round
                      case rel => exact ⟨i + 1, by go_num, by omega, by rw [HX.out.1], by rw [HX.out.2]⟩
                      case measure => simp [intOf]; omega
                  · have e3 : decide ((a[i].toNat : Int) < 32) = false := by simp; omega
                    have HX := Hid.of (show sm a (i + 1) = S ∧ ct a (i + 1) = C from ⟨by rw [HS.out.1]; simp; intros; omega, by rw [HS.out.2]; unfold bct; simp; intros; omega⟩)
                    clear h127 h128 h32
                    go_wp2
                    go_round
                    case rel => exact ⟨i + 1, by go_num, by omega, by rw [HX.out.1], by rw [HX.out.2]⟩
                    case measure => simp [intOf]; omega
            · have hie : i = a.size := by omega
              have hlt' : ¬ (i : Int) < (a.size : Int) := by omega
              have HE := Hid.of (And.intro (HA.out.2.1 hlg) (HA.out.2.2 hlg))
              rw [← hie] at HE
              clear hie hlt hlg
              generalize sm a i = S at *
              generalize ct a i = C at *
              cases C with
              | true =>
                exact absurd h0 (HE.out.2 rfl)
              | false =>
                cases S with
                | true =>
                  obtain rfl : r = 0 := HE.out.1 rfl rfl
                  go_wp2
                  go_ret
                  exact ⟨by simp, HW.out⟩
                | false =>
                  go_wp2
                  go_ret
                  exact ⟨by simp, HW.out⟩
    · have hq0 : (q == 0) = false := by simpa using h1
      have HW := H2
      clear h1
      by_cases hlg : 1048576 < a.size
      · have g1 : (1048576 : Int) < (a.size : Int) := by omega
        obtain rfl : r = 2 := HA.out.1 hlg
        go_wp2
        go_ret
        exact ⟨by simp, HW.out⟩
      · have g1 : ¬ (1048576 : Int) < (a.size : Int) := by omega
        go_wp2
        go_loop [8, 9, 10] (fun v8 v9 v10 => ∃ i : Nat, v10 = .int .i64 (i : Int) ∧ i ≤ a.size ∧ v8 = .bool (sm a i) ∧ v9 = .bool (ct a i)) (fun _ _ v10 => a.size - (intOf v10).toNat)
        case atStart => exact ⟨0, rfl, by omega, rfl, rfl⟩
        case round =>
          obtain ⟨i, rfl, hi, rfl, rfl⟩ := hrel
          by_cases hlt : i < a.size
          · have hlt' : (i : Int) < (a.size : Int) := by omega
            have hge := gb_get hlt
            have HS := Hid.of (show sm a (i + 1) = (sm a i && decide (a[i].toNat < 128)) ∧ ct a (i + 1) = (ct a i || bct a[i].toNat) from ⟨by rw [hge]; rfl, by rw [hge]; rfl⟩)
            clear hge
            have hb0 : a[i].toNat < 256 := a[i].toNat_lt
            generalize sm a i = S at *
            generalize ct a i = C at *
            by_cases h128 : 128 ≤ a[i].toNat
            · have e1 : (128 : Int) ≤ (a[i].toNat : Int) := by omega
              have e2 : ((a[i].toNat : Int) == 127) = false := by simp; omega
              have e3 : decide ((a[i].toNat : Int) < 32) = false := by simp; omega
              have HX := Hid.of (show sm a (i + 1) = false ∧ ct a (i + 1) = C from ⟨by rw [HS.out.1]; simp; intros; omega, by rw [HS.out.2]; unfold bct; simp; intros; omega⟩)
              clear h128
              go_wp2
              go_round
              case rel => exact ⟨i + 1, by go_num, by omega, by rw [HX.out.1], by rw [HX.out.2]⟩
              case measure => simp [intOf]; omega
            · have e1 : ¬ (128 : Int) ≤ (a[i].toNat : Int) := by omega
              by_cases h127 : a[i].toNat = 127
              · have e2 : ((a[i].toNat : Int) == 127) = true := by simp; omega
                have HX := Hid.of (show sm a (i + 1) = S ∧ ct a (i + 1) = true from ⟨by rw [HS.out.1]; simp; intros; omega, by rw [HS.out.2]; unfold bct; simp [h127]⟩)
                clear h127 h128
                go_wp2
                go_round
                case rel => exact ⟨i + 1, by go_num, by omega, by rw [HX.out.1], by rw [HX.out.2]⟩
                case measure => simp [intOf]; omega
              · have e2 : ((a[i].toNat : Int) == 127) = false := by simp; omega
                by_cases h32 : a[i].toNat < 32
                · have e3 : decide ((a[i].toNat : Int) < 32) = true := by simp; omega
                  have e3' : (a[i].toNat : Int) < 32 := by omega
                  by_cases h10 : a[i].toNat = 10
                  · have e4 : ((a[i].toNat : Int) != 10) = false := by simp; omega
                    have HX := Hid.of (show sm a (i + 1) = S ∧ ct a (i + 1) = C from ⟨by rw [HS.out.1]; simp; intros; omega, by rw [HS.out.2]; unfold bct; simp [h10]⟩)
                    clear h127 h128 h32 h10
                    go_wp2
                    go_round
                    case rel => exact ⟨i + 1, by go_num, by omega, by rw [HX.out.1], by rw [HX.out.2]⟩
                    case measure => simp [intOf]; omega
                  · have e4 : ((a[i].toNat : Int) != 10) = true := by simp; omega
                    have HX := Hid.of (show sm a (i + 1) = S ∧ ct a (i + 1) = true from ⟨by rw [HS.out.1]; simp; intros; omega, by rw [HS.out.2]; unfold bct; simp [h32, h10]⟩)
                    clear h127 h128 h32 h10
                    go_wp2
                    go_round
                    case rel => exact ⟨i + 1, by go_num, by omega, by rw [HX.out.1], by rw [HX.out.2]⟩
                    case measure => simp [intOf]; omega
                · have e3 : decide ((a[i].toNat : Int) < 32) = false := by simp; omega
                  have HX := Hid.of (show sm a (i + 1) = S ∧ ct a (i + 1) = C from ⟨by rw [HS.out.1]; simp; intros; omega, by rw [HS.out.2]; unfold bct; simp; intros; omega⟩)
                  clear h127 h128 h32
                  go_wp2
                  go_round
                  case rel => exact ⟨i + 1, by go_num, by omega, by rw [HX.out.1], by rw [HX.out.2]⟩
                  case measure => simp [intOf]; omega
          · have hie : i = a.size := by omega
            have hlt' : ¬ (i : Int) < (a.size : Int) := by omega
            have HE := Hid.of (And.intro (HA.out.2.1 hlg) (HA.out.2.2 hlg))
            rw [← hie] at HE
            clear hie hlt hlg
            generalize sm a i = S at *
            generalize ct a i = C at *
            cases C with
            | true =>
              exact absurd h0 (HE.out.2 rfl)
            | false =>
              cases S with
              | true =>
                obtain rfl : r = 0 := HE.out.1 rfl rfl
                go_wp2
                go_ret
                exact ⟨by simp, HW.out⟩
              | false =>
                go_wp2
                go_ret
                exact ⟨by simp, HW.out⟩
  · have hr0 : (r == 0) = false := by simpa using h0
    have HW := H2
    clear h0
    by_cases hlg : 1048576 < a.size
    · have g1 : (1048576 : Int) < (a.size : Int) := by omega
      obtain rfl : r = 2 := HA.out.1 hlg
      go_wp2
      go_ret
      exact ⟨by simp, HW.out⟩
    · have g1 : ¬ (1048576 : Int) < (a.size : Int) := by omega
      go_wp2
      go_loop [8, 9, 10] (fun v8 v9 v10 => ∃ i : Nat, v10 = .int .i64 (i : Int) ∧ i ≤ a.size ∧ v8 = .bool (sm a i) ∧ v9 = .bool (ct a i)) (fun _ _ v10 => a.size - (intOf v10).toNat)
      case atStart => exact ⟨0, rfl, by omega, rfl, rfl⟩
      case round =>
        obtain ⟨i, rfl, hi, rfl, rfl⟩ := hrel
        by_cases hlt : i < a.size
        · have hlt' : (i : Int) < (a.size : Int) := by omega
          have hge := gb_get hlt
          have HS := Hid.of (show sm a (i + 1) = (sm a i && decide (a[i].toNat < 128)) ∧ ct a (i + 1) = (ct a i || bct a[i].toNat) from ⟨by rw [hge]; rfl, by rw [hge]; rfl⟩)
          clear hge
          have hb0 : a[i].toNat < 256 := a[i].toNat_lt
          generalize sm a i = S at *
          generalize ct a i = C at *
          by_cases h128 : 128 ≤ a[i].toNat
          · have e1 : (128 : Int) ≤ (a[i].toNat : Int) := by omega
            have e2 : ((a[i].toNat : Int) == 127) = false := by simp; omega
            have e3 : decide ((a[i].toNat : Int) < 32) = false := by simp; omega
            have HX := Hid.of (show sm a (i + 1) = false ∧ ct a (i + 1) = C from ⟨by rw [HS.out.1]; simp; intros; omega, by rw [HS.out.2]; unfold bct; simp; intros; omega⟩)
            clear h128
            go_wp2
            go_round
            case rel => exact ⟨i + 1, by go_num, by omega, by rw [HX.out.1], by rw [HX.out.2]⟩
            case measure => simp [intOf]; omega
          · have e1 : ¬ (128 : Int) ≤ (a[i].toNat : Int) := by omega
            by_cases h127 : a[i].toNat = 127
            · have e2 : ((a[i].toNat : Int) == 127) = true := by simp; omega
              have HX := Hid.of (show sm a (i + 1) = S ∧ ct a (i + 1) = true from ⟨by rw [HS.out.1]; simp; intros; omega, by rw [HS.out.2]; unfold bct; simp [h127]⟩)
              clear h127 h128
              go_wp2
              go_round
              case rel => exact ⟨i + 1, by go_num, by omega, by rw [HX.out.1], by rw [HX.out.2]⟩
              case measure => simp [intOf]; omega
            · have e2 : ((a[i].toNat : Int) == 127) = false := by simp; omega
              by_cases h32 : a[i].toNat < 32
              · have e3 : decide ((a[i].toNat : Int) < 32) = true := by simp; omega
                have e3' : (a[i].toNat : Int) < 32 := by omega
                by_cases h10 : a[i].toNat = 10
                · have e4 : ((a[i].toNat : Int) != 10) = false := by simp; omega
                  have HX := Hid.of (show sm a (i + 1) = S ∧ ct a (i + 1) = C from ⟨by rw [HS.out.1]; simp; intros; omega, by rw [HS.out.2]; unfold bct; simp [h10]⟩)
                  clear h127 h128 h32 h10
                  go_wp2
                  go_round
                  case rel => exact ⟨i + 1, by go_num, by omega, by rw [HX.out.1], by rw [HX.out.2]⟩
                  case measure => simp [intOf]; omega
                · have e4 : ((a[i].toNat : Int) != 10) = true := by simp; omega
                  have HX := Hid.of (show sm a (i + 1) = S ∧ ct a (i + 1) = true from ⟨by rw [HS.out.1]; simp; intros; omega, by rw [HS.out.2]; unfold bct; simp [h32, h10]⟩)
                  clear h127 h128 h32 h10
                  go_wp2
                  go_round
                  case rel => exact ⟨i + 1, by go_num, by omega, by rw [HX.out.1], by rw [HX.out.2]⟩
                  case measure => simp [intOf]; omega
              · have e3 : decide ((a[i].toNat : Int) < 32) = false := by simp; omega
                have HX := Hid.of (show sm a (i + 1) = S ∧ ct a (i + 1) = C from ⟨by rw [HS.out.1]; simp; intros; omega, by rw [HS.out.2]; unfold bct; simp; intros; omega⟩)
                clear h127 h128 h32
                go_wp2
                go_round
                case rel => exact ⟨i + 1, by go_num, by omega, by rw [HX.out.1], by rw [HX.out.2]⟩
                case measure => simp [intOf]; omega
        · have hie : i = a.size := by omega
          have hlt' : ¬ (i : Int) < (a.size : Int) := by omega
          have HE := Hid.of (And.intro (HA.out.2.1 hlg) (HA.out.2.2 hlg))
          rw [← hie] at HE
          clear hie hlt hlg
          generalize sm a i = S at *
          generalize ct a i = C at *
          cases C with
          | true =>
            have hr : (r != 0) = true := by simpa using HE.out.2 rfl
            have hr2 : (r == 0) = false := by simpa using HE.out.2 rfl
            cases S with
            | true =>
              go_wp2
              go_ret
              exact ⟨by simp, HW.out⟩
            | false =>
              go_wp2
              go_ret
              exact ⟨by simp, HW.out⟩
          | false =>
            cases S with
            | true =>
              obtain rfl : r = 0 := HE.out.1 rfl rfl
              go_wp2
              go_ret
              exact ⟨by simp, HW.out⟩
            | false =>
              go_wp2
              go_ret
              exact ⟨by simp, HW.out⟩
end Go.Proofs.Ytdebcddbjkejmaa
