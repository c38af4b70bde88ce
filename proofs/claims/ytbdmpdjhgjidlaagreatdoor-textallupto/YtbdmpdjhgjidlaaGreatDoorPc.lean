import Derived.Test.YtbdmpdjhgjidlaaGreatDoorOp
import Derived.Test.YtbdmpdjhgjidlaaGreatDoorQq
namespace Go.Proofs.YtbdmpdjhgjidlaaGreatDoor
open Go.RowKit TextNum

/-- the place of a byte, or -1 -/
def plI (t : List UInt8) (c : UInt8) : Int := match pl t c with
  | some i => (i : Int)
  | none => -1
theorem plI_some {t : List UInt8} {c : UInt8} {i : Nat} (h : i < t.length) (hc : t[i] = c) (hn : ∀ j, (hj : j < i) → t[j] ≠ c) : plI t c = (i : Int) := by
  have : pl t c = some i := by
    unfold pl
    rw [List.idxOf?_eq_some_iff]
    exact ⟨h, by simpa using hc, fun j hj => by simpa using hn j hj⟩
  unfold plI; rw [this]
theorem plI_none {t : List UInt8} {c : UInt8} (hn : ∀ j, (hj : j < t.length) → t[j] ≠ c) : plI t c = -1 := by
  have : pl t c = none := by
    unfold pl
    rw [List.idxOf?_eq_none_iff]
    intro hm
    obtain ⟨j, hj, e⟩ := List.getElem_of_mem hm
    exact hn j hj e
  unfold plI; rw [this]
set_option maxRecDepth 100000 in
theorem place_walk (s : ByteArray) (c : UInt8) (hs : s.size ≤ 64) (w : World) : Calls Tryz.prog 50 #[.string s, vb c] w fun e w' => e = .returned (.int .i64 (plI s.data.toList c)) ∧ w' = w := by
  have HS := Hid.of (Go.Lib.size_eq s)
  go_enter Tryz.func50, Tryz.ntmps50
  go_wp2
  go_loop [5] (fun v5 => ∃ i : Nat, v5 = .int .i64 (i : Int) ∧ i ≤ s.size ∧ Hid (∀ j, (hj : j < i) → (hl : j < s.data.toList.length) → s.data.toList[j] ≠ c)) (fun v5 => s.size - (intOf v5).toNat)
  case atStart => exact ⟨0, rfl, by omega, fun j hj => by omega⟩
  case round =>
    obtain ⟨i, rfl, hi, hI⟩ := hrel
    by_cases hlt : i < s.size
    · have hlt' : (i : Int) < (s.size : Int) := by omega
      have hil : i < s.data.toList.length := by rw [← HS.out]; exact hlt
      by_cases hc : s[i] = c
      · have hcc : ((s[i].toNat : Int) == (c.toNat : Int)) = true := by rw [hc]; simp
        have HF := Hid.of (plI_some hil (by rw [← sget' s i hlt]; exact hc) (fun j hj => hI.out j hj (by omega)))
        clear hc
        go_wp2
        go_ret
        rw [HF.out]
        exact ⟨rfl, rfl⟩
      · have hcc : ((s[i].toNat : Int) == (c.toNat : Int)) = false := by rw [u8_eq]; simpa using hc
        have HN := Hid.of (show ∀ j, (hj : j < i + 1) → (hl : j < s.data.toList.length) → s.data.toList[j] ≠ c from fun j hj hl => by
          by_cases e : j = i
          · subst e; rw [← sget' s j hlt]; exact hc
          · exact hI.out j (by omega) hl)
        clear hc
        go_wp2
        go_round
        case rel => exact ⟨i + 1, by go_num, by omega, HN⟩
        case measure => simp [intOf]; omega
    · have hlt' : ¬ (i : Int) < (s.size : Int) := by omega
      have HF := Hid.of (plI_none (t := s.data.toList) (c := c) (fun j hj => hI.out j (by have := HS.out; omega) hj))
      go_wp2
      go_ret
      rw [HF.out]
      exact ⟨rfl, rfl⟩
theorem plI_hv {c : UInt8} {i : Nat} (h : pl DT c = some i) : plI DT c = (i : Int) := by unfold plI; rw [h]
theorem plI_no {t : List UInt8} {c : UInt8} (h : pl t c = none) : plI t c = -1 := by unfold plI; rw [h]
end Go.Proofs.YtbdmpdjhgjidlaaGreatDoor
