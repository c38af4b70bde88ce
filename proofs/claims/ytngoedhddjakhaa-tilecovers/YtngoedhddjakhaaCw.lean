import Derived.Test.YtngoedhddjakhaaFs
namespace Go.Proofs.Ytngoedhddjakhaa
open Go.RowKit TileNum
set_option maxRecDepth 100000 in
theorem all_walk (h p s : Nat) (h1 : 1 ≤ h) (h8 : h ≤ 8) (hp : p = 2 ^ h) (hs : s ≤ 281474976710656) (w : World) : Calls Try.prog 11 #[.int .i64 (h : Int), .int .i64 (s : Int)] w (FA h 0 s w) := by
  have HF := fun w => Hid.of (fresh_walk h p 0 s h1 h8 hp (Nat.zero_le _) hs w)
  clear hp h1 h8 hs
  go_enter Try.func11, Try.ntmps11
  go_wp2_with fail
  refine (HF _).out.mono ?_
  rintro e w1 ⟨u1, h2⟩
  by_cases hb : 65536 < (FL h 0 s).length
  · rw [if_pos hb] at h2
    subst h2
    have HU := Hid.of u1
    clear u1
    dsimp only
    go_wp2
    go_ret2
    refine ⟨HU.out, ?_⟩
    rw [if_pos hb]
    rfl
  · rw [if_neg hb] at h2
    obtain ⟨v, rfl, h3⟩ := h2
    have HU := Hid.of (And.intro u1 h3)
    clear u1 h3
    dsimp only
    go_wp2
    go_ret2
    refine ⟨HU.out.1, ?_⟩
    rw [if_neg hb]
    exact ⟨_, rfl, HU.out.2⟩
set_option maxRecDepth 100000 in
theorem within_walk (n : Int) (m : Nat) (hm : 0 < m) (hm2 : m ≤ 1000) (w : World) : Calls Try.prog 10 #[.int .i64 n, .int .i64 (m : Int)] w fun e w' => (∃ r : Nat, r < m ∧ e = .returned (.int .i64 (r : Int))) ∧ w' = w := by
  have hm0 : ((m : Int) == 0) = false := by simp; omega
  have h1 := Int.lt_tmod_of_pos n (show (0 : Int) < (m : Int) by omega)
  have h2 := Int.tmod_lt_of_pos n (show (0 : Int) < (m : Int) by omega)
  go_enter Try.func10, Try.ntmps10
  go_wp2
  go_ret
  have h3 := Int.emod_nonneg (n.tmod (m : Int) + (m : Int)) (show (m : Int) ≠ 0 by omega)
  have h4 := Int.emod_lt_of_pos (n.tmod (m : Int) + (m : Int)) (show (0 : Int) < (m : Int) by omega)
  refine ⟨⟨((n.tmod (m : Int) + (m : Int)) % (m : Int)).toNat, by omega, ?_⟩, rfl⟩
  rw [Int.toNat_of_nonneg h3]
  rfl
theorem cvs_le {h lv : Nat} : ∀ (l : List TT) (n m : Nat), cvs h lv l n = some m → n ≤ m
  | [], n, m, he => by simp [cvs] at he; omega
  | t :: l, n, m, he => by
    simp only [cvs] at he
    split at he
    · exact cvs_le l n m he
    · split at he
      · have := cvs_le l _ m he
        omega
      · cases he
set_option maxRecDepth 100000 in
set_option maxHeartbeats 2000000 in
theorem covered_walk (v : Value) (B h p lv r : Nat) (ts : List TT) (h1 : 1 ≤ h) (h8 : h ≤ 8) (hp : p = 2 ^ h) (hr : r ≤ 281474976710656) (hlv : lv ≤ 1000) (hlen : ts.length ≤ 65536) (w : World) (hown : OwnTl w B v h ts) (hc : cvs h lv ts 0 = some r) :
    Calls Try.prog 13 #[v, .int .i64 (h : Int), .int .i64 (lv : Int)] w fun e w' => e = .returned (.int .i64 (r : Int)) ∧ Up w w' := by
  have HO := Hid.of hown
  obtain ⟨va, vc, rfl⟩ := hown.len
  have hwr := wr2 h1 h8 hp
  have hp256 := p256 h8
  rw [← hp] at hp256
  have HP := Hid.of hp
  have HC := Hid.of hc
  have hh : ((h : Int) == (h : Int)) = true := by simp
  clear hown hp hc
  go_enter Try.func13, Try.ntmps13
  go_wp2
  go_loopg [7, 8] ts.length (fun k s7 s8 wr => ∃ i n : Nat, i ≤ ts.length ∧ ts.length - i ≤ k ∧ s8 = .int .i64 (i : Int) ∧ s7 = .int .i64 (n : Int) ∧ Hid (cvs h lv (ts.drop i) n = some r) ∧ Hid (Up w wr))
  case atStart => exact ⟨0, 0, by omega, by omega, rfl, rfl, HC.out, Up.refl _⟩
  case round =>
    obtain ⟨i, n, hi, hk, rfl, rfl, HX, HU⟩ := hrel
    obtain ⟨wb, hwb⟩ : ∃ wb, wb = wr := ⟨_, rfl⟩
    subst hwb
    by_cases hlt : i < ts.length
    · have hltz : (i : Int) < (ts.length : Int) := by omega
      have hx := HX.out
      rw [List.drop_eq_getElem_cons hlt] at hx
      obtain ⟨g, c, ev, hcap, hg, hcell⟩ := (HO.out.up HU.out).get hlt
      injection ev with ev1 _ ev3
      subst ev1 ev3
      have e0 := hcell 0 _ rfl
      have e1 := hcell 1 _ rfl
      have e2 := hcell 2 _ rfl
      have e3 := hcell 3 _ rfl
      have e4 := hcell 4 _ rfl
      rw [Nat.add_zero] at e0
      clear hcell
      generalize ts[i] = t at *
      obtain ⟨tl, tn, tw⟩ := t
      simp only [cvs] at hx e0 e1 e2 e3 e4
      by_cases hl : tl = lv
      · subst hl
        rw [if_neg (by simp)] at hx
        split at hx
        · rename_i hcond
          obtain ⟨q1, q2, q3⟩ := hcond
          rw [← HP.out] at q1 q3
          have hle := cvs_le _ _ _ hx
          have hmul : (tn : Int) * (p : Int) = (n : Int) := by rw [← q1]; simp
          have t1 : ¬ (tw : Int) < 1 := by omega
          have t2 : ¬ (p : Int) < (tw : Int) := by omega
          have hnn : ((n : Int) == (n : Int)) = true := by simp
          have HY := Hid.of hx
          clear hx q1 HX
          go_wp2
          go_roundg (ts.length - (i + 1))
          case measure => omega
          case rel => exact ⟨i + 1, n + tw, by omega, by omega, by go_num, by go_num, HY.out, HU.out⟩
        · cases hx
      · rw [if_pos hl] at hx
        have hlz : ((tl : Int) == (lv : Int)) = false := by simp; omega
        have HY := Hid.of hx
        clear hx HX
        go_wp2
        go_roundg (ts.length - (i + 1))
        case measure => omega
        case rel => exact ⟨i + 1, n, by omega, by omega, by go_num, rfl, HY.out, HU.out⟩
    · have hltz : ¬ (i : Int) < (ts.length : Int) := by omega
      have hx := HX.out
      rw [List.drop_eq_nil_of_le (by omega)] at hx
      simp only [cvs, Option.some.injEq] at hx
      subst hx
      go_wp2
      go_ret
      exact ⟨rfl, HU.out⟩
end Go.Proofs.Ytngoedhddjakhaa
