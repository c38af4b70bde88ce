import Derived.Test.YtaphjbcnnkoffaaGreatDoorNa
import Derived.Test.YtaphjbcnnkoffaaGreatDoorLy
import Derived.Test.YtaphjbcnnkoffaaGreatDoorRd
namespace Go.Proofs.YtaphjbcnnkoffaaGreatDoor
open Go.RowKit Go.Shelf TextNum ModNum
theorem kd4 (n : Nat) : (kd n &&& 4 ≠ 0) ↔ (48 ≤ n ∧ n ≤ 57) := by
  unfold kd
  (repeat' split) <;> simp <;> omega
theorem kd15 (n : Nat) : (kd n &&& 15 ≠ 0) ↔ ((97 ≤ n ∧ n ≤ 122) ∨ (65 ≤ n ∧ n ≤ 90) ∨ (48 ≤ n ∧ n ≤ 57) ∨ n = 45) := by
  unfold kd
  (repeat' split) <;> simp <;> omega
abbrev dgt (c : UInt8) : Bool := decide (48 ≤ c.toNat) && decide (c.toNat ≤ 57)
abbrev sml (c : UInt8) : Bool := decide (97 ≤ c.toNat) && decide (c.toNat ≤ 122)
abbrev cap (c : UInt8) : Bool := decide (65 ≤ c.toNat) && decide (c.toNat ≤ 90)
theorem digit_walk (c : UInt8) (w : World) : Calls Tryz.prog 95 #[.int .u8 (c.toNat : Int)] w fun e w' => e = .returned (.bool (dgt c)) ∧ Up w w' := by
  by_cases h1 : 48 ≤ c.toNat
  · have h1z : (48 : Int) ≤ (c.toNat : Int) := by omega
    by_cases h2 : c.toNat ≤ 57
    · have h2z : (c.toNat : Int) ≤ 57 := by omega
      have HE : Hid (dgt c = true ∧ True) := ⟨by simp [dgt, h1, h2], trivial⟩
      clear h1 h2
      go_enter Tryz.func95, Tryz.ntmps95
      go_wp2
      go_ret
      rw [HE.out.1]
      exact ⟨rfl, Up.refl _⟩
    · have h2z : ¬ (c.toNat : Int) ≤ 57 := by omega
      have HE : Hid (dgt c = false ∧ True) := ⟨by simp [dgt, h2], trivial⟩
      clear h1 h2
      go_enter Tryz.func95, Tryz.ntmps95
      go_wp2
      go_ret
      rw [HE.out.1]
      exact ⟨rfl, Up.refl _⟩
  · have h1z : ¬ (48 : Int) ≤ (c.toNat : Int) := by omega
    have HE : Hid (dgt c = false ∧ True) := ⟨by simp [dgt, h1], trivial⟩
    clear h1
    go_enter Tryz.func95, Tryz.ntmps95
    go_wp2
    go_ret
    rw [HE.out.1]
    exact ⟨rfl, Up.refl _⟩
theorem small_walk (c : UInt8) (w : World) : Calls Tryz.prog 93 #[.int .u8 (c.toNat : Int)] w fun e w' => e = .returned (.bool (sml c)) ∧ Up w w' := by
  by_cases h1 : 97 ≤ c.toNat
  · have h1z : (97 : Int) ≤ (c.toNat : Int) := by omega
    by_cases h2 : c.toNat ≤ 122
    · have h2z : (c.toNat : Int) ≤ 122 := by omega
      have HE : Hid (sml c = true ∧ True) := ⟨by simp [sml, h1, h2], trivial⟩
      clear h1 h2
      go_enter Tryz.func93, Tryz.ntmps93
      go_wp2
      go_ret
      rw [HE.out.1]
      exact ⟨rfl, Up.refl _⟩
    · have h2z : ¬ (c.toNat : Int) ≤ 122 := by omega
      have HE : Hid (sml c = false ∧ True) := ⟨by simp [sml, h2], trivial⟩
      clear h1 h2
      go_enter Tryz.func93, Tryz.ntmps93
      go_wp2
      go_ret
      rw [HE.out.1]
      exact ⟨rfl, Up.refl _⟩
  · have h1z : ¬ (97 : Int) ≤ (c.toNat : Int) := by omega
    have HE : Hid (sml c = false ∧ True) := ⟨by simp [sml, h1], trivial⟩
    clear h1
    go_enter Tryz.func93, Tryz.ntmps93
    go_wp2
    go_ret
    rw [HE.out.1]
    exact ⟨rfl, Up.refl _⟩
theorem capital_walk (c : UInt8) (w : World) : Calls Tryz.prog 94 #[.int .u8 (c.toNat : Int)] w fun e w' => e = .returned (.bool (cap c)) ∧ Up w w' := by
  by_cases h1 : 65 ≤ c.toNat
  · have h1z : (65 : Int) ≤ (c.toNat : Int) := by omega
    by_cases h2 : c.toNat ≤ 90
    · have h2z : (c.toNat : Int) ≤ 90 := by omega
      have HE : Hid (cap c = true ∧ True) := ⟨by simp [cap, h1, h2], trivial⟩
      clear h1 h2
      go_enter Tryz.func94, Tryz.ntmps94
      go_wp2
      go_ret
      rw [HE.out.1]
      exact ⟨rfl, Up.refl _⟩
    · have h2z : ¬ (c.toNat : Int) ≤ 90 := by omega
      have HE : Hid (cap c = false ∧ True) := ⟨by simp [cap, h2], trivial⟩
      clear h1 h2
      go_enter Tryz.func94, Tryz.ntmps94
      go_wp2
      go_ret
      rw [HE.out.1]
      exact ⟨rfl, Up.refl _⟩
  · have h1z : ¬ (65 : Int) ≤ (c.toNat : Int) := by omega
    have HE : Hid (cap c = false ∧ True) := ⟨by simp [cap, h1], trivial⟩
    clear h1
    go_enter Tryz.func94, Tryz.ntmps94
    go_wp2
    go_ret
    rw [HE.out.1]
    exact ⟨rfl, Up.refl _⟩
/-- one or more digits -/
abbrev dgl (l : List UInt8) : Bool := al 4 l && !l.isEmpty
theorem al_take {s : ByteArray} {i k : Nat} (h : i < s.size) : al k (s.data.toList.take (i + 1)) = (al k (s.data.toList.take i) && decide (kd s[i].toNat &&& k ≠ 0)) := by
  rw [take_succ h, al_append, al_cons, al_nil, Bool.and_true]
theorem al_no {s : ByteArray} {i k : Nat} (h : i < s.size) (hk : ¬ (kd s[i].toNat &&& k ≠ 0)) : al k s.data.toList = false := by
  rw [← List.take_append_drop (i + 1) s.data.toList, al_append, al_take h, decide_eq_false hk]
  simp
theorem emp_of (s : ByteArray) : s.toList.isEmpty = s.data.toList.isEmpty := by rw [Go.Lib.toList_data]
set_option maxRecDepth 100000 in
set_option maxHeartbeats 1000000 in
theorem digits_walk (s : ByteArray) (hs : s.size ≤ 1048576) (w : World) : Calls Tryz.prog 97 #[.string s] w fun e w' => e = .returned (.bool (dgl s.data.toList)) ∧ Up w w' := by
  have hem := emp_of s
  have HEm := Hid.of (And.intro hem trivial)
  clear hem
  go_enter Tryz.func97, Tryz.ntmps97
  go_wp2
  go_loopw [3] (fun v3 wr => ∃ i : Nat, v3 = .int .i64 (i : Int) ∧ i ≤ s.size ∧ Hid (al 4 (s.data.toList.take i) = true ∧ Up w wr)) (fun v3 _ => s.size - (intOf v3).toNat)
  case atStart => exact ⟨0, rfl, by omega, rfl, Up.refl _⟩
  case round =>
    obtain ⟨i, rfl, hi, hI⟩ := hrel
    by_cases hlt : i < s.size
    · have hlt' : (i : Int) < (s.size : Int) := by omega
      have HT := Hid.of (And.intro (al_take (k := 4) hlt) (fun hk => al_no (k := 4) hlt hk))
      have HD := Hid.of (digit_walk s[i] wr)
      generalize hxx : s[i] = x at *
      have hd : dgt x = true ↔ (kd x.toNat &&& 4 ≠ 0) := by rw [kd4]; simp [dgt]
      go_wp2_with fail
      refine HD.out.mono ?_
      rintro e w1 ⟨rfl, u1⟩
      have H1 := Hid.of (hI.out.2.trans u1)
      clear u1 HD
      dsimp only
      cases hx : dgt x with
      | false =>
        have HF := Hid.of (HT.out.2 (fun h => by rw [hd.2 h] at hx; cases hx))
        clear hx hd HT
        go_wp2
        go_ret
        simp only [dgl, HF.out, Bool.false_and]
        exact ⟨rfl, H1.out⟩
      | true =>
        have HF := Hid.of (show al 4 (s.data.toList.take (i + 1)) = true by rw [HT.out.1, hI.out.1, decide_eq_true (hd.1 hx)]; rfl)
        clear hx hd HT
        go_wp2
        go_roundw
        case rel => exact ⟨i + 1, by go_num, by omega, HF.out, H1.out⟩
        case measure => simp [intOf]; omega
    · have hlt' : ¬ (i : Int) < (s.size : Int) := by omega
      have HF := Hid.of (show al 4 s.data.toList = true by
        have := hI.out.1
        rwa [List.take_of_length_le (by rw [len_of]; omega)] at this)
      go_wp2
      go_ret
      simp only [dgl, HF.out, Bool.true_and, ← HEm.out.1]
      exact ⟨rfl, hI.out.2⟩
end Go.Proofs.YtaphjbcnnkoffaaGreatDoor
