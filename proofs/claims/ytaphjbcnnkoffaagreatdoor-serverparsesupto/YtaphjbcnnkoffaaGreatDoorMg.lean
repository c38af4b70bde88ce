import Derived.Test.YtaphjbcnnkoffaaGreatDoorTa
import Derived.Test.YtaphjbcnnkoffaaGreatDoorMp
import Derived.Test.YtaphjbcnnkoffaaGreatDoorSl
import Derived.Laws.RangeAny
import Derived.Lib.OthersKept
import Derived.Deep.LoopGhost
namespace Go.Proofs.YtaphjbcnnkoffaaGreatDoor
open Go.RowKit TextNum ModNum
/-- the table of letters -/
def chC : List Value := [.int .i32 97, .int .i32 122, .int .u8 1, .int .i32 65, .int .i32 90, .int .u8 2, .int .i32 48, .int .i32 57, .int .u8 4, .int .i32 45, .int .i32 45, .int .u8 8, .int .i32 46, .int .i32 46, .int .u8 16, .int .i32 95, .int .i32 95, .int .u8 32, .int .i32 126, .int .i32 126, .int .u8 32, .int .i32 47, .int .i32 47, .int .u8 64]
def rsC : List Value := rsv.map fun l => .string ⟨l.toArray⟩
/-- what the calls ask of the variables -/
structure GM (w : World) : Prop where
  ch : w.rangeAt 6 0 chC
  ml : ∃ m, w.cell? ⟨0, 0, none⟩ = some (.int .i64 m)
structure GR (w : World) : Prop extends GM w where
  rs : w.rangeAt 7 0 rsC
theorem range_up {w w' : World} {b o : Nat} {cs : List Value} (h : w.rangeAt b o cs) (k : Up w w') : w'.rangeAt b o cs := fun j v hj => k.cell (h j v hj)
theorem GM.up {w w' : World} (h : GM w) (k : Up w w') : GM w' := ⟨range_up h.ch k, by obtain ⟨m, hm⟩ := h.ml; exact ⟨m, k.cell hm⟩⟩
theorem GR.up {w w' : World} (h : GR w) (k : Up w w') : GR w' := ⟨h.toGM.up k, range_up h.rs k⟩
/-- what was seen of the table's first rows -/
def kdn (i : Nat) (n : Nat) : Prop := (0 < i → ¬ (97 ≤ n ∧ n ≤ 122)) ∧ (1 < i → ¬ (65 ≤ n ∧ n ≤ 90)) ∧ (2 < i → ¬ (48 ≤ n ∧ n ≤ 57)) ∧ (3 < i → n ≠ 45) ∧ (4 < i → n ≠ 46) ∧ (5 < i → n ≠ 95) ∧ (6 < i → n ≠ 126) ∧ (7 < i → n ≠ 47)
theorem ixc0 (w : World) : (Instr.index 181 (.agg chC.toArray) (.int .i64 0)).run Tryz.prog w = .ok (.agg #[.int .i32 97, .int .i32 122, .int .u8 1]) w := by kernel_rfl
theorem ixc1 (w : World) : (Instr.index 181 (.agg chC.toArray) (.int .i64 1)).run Tryz.prog w = .ok (.agg #[.int .i32 65, .int .i32 90, .int .u8 2]) w := by kernel_rfl
theorem ixc2 (w : World) : (Instr.index 181 (.agg chC.toArray) (.int .i64 2)).run Tryz.prog w = .ok (.agg #[.int .i32 48, .int .i32 57, .int .u8 4]) w := by kernel_rfl
theorem ixc3 (w : World) : (Instr.index 181 (.agg chC.toArray) (.int .i64 3)).run Tryz.prog w = .ok (.agg #[.int .i32 45, .int .i32 45, .int .u8 8]) w := by kernel_rfl
theorem ixc4 (w : World) : (Instr.index 181 (.agg chC.toArray) (.int .i64 4)).run Tryz.prog w = .ok (.agg #[.int .i32 46, .int .i32 46, .int .u8 16]) w := by kernel_rfl
theorem ixc5 (w : World) : (Instr.index 181 (.agg chC.toArray) (.int .i64 5)).run Tryz.prog w = .ok (.agg #[.int .i32 95, .int .i32 95, .int .u8 32]) w := by kernel_rfl
theorem ixc6 (w : World) : (Instr.index 181 (.agg chC.toArray) (.int .i64 6)).run Tryz.prog w = .ok (.agg #[.int .i32 126, .int .i32 126, .int .u8 32]) w := by kernel_rfl
theorem ixc7 (w : World) : (Instr.index 181 (.agg chC.toArray) (.int .i64 7)).run Tryz.prog w = .ok (.agg #[.int .i32 47, .int .i32 47, .int .u8 64]) w := by kernel_rfl
set_option maxRecDepth 100000 in
set_option maxHeartbeats 2000000 in
theorem kindOf_walk (n : Nat) (w : World) (hG : GM w) : Calls Tryz.prog 130 #[.int .i32 (n : Int)] w fun e w' => e = .returned (.int .u8 (kd n : Int)) ∧ Up w w' := by
  have HG := Hid.of hG
  clear hG
  go_enter Tryz.func130, Tryz.ntmps130
  go_wp2_with (with_reducible show wpList _ _ _ ({ dst := _, op := Op.load 181 _, type := _, pos := _, after := _, guard := _ } :: _) _ _; refine Shut.out ?_)
  show wpList _ _ _ _ _ _
  refine wpList_load_mid rfl 181 _ rfl 6 0 rfl chC _ HG.out.ch Tryz.underlying181 rfl (by kernel_rfl) ?_
  simp only [Act.put, List.setIfInBounds_toArray, List.set_cons_zero, List.set_cons_succ]
  have x0 := ixc0
  have x1 := ixc1
  have x2 := ixc2
  have x3 := ixc3
  have x4 := ixc4
  have x5 := ixc5
  have x6 := ixc6
  have x7 := ixc7
  generalize chC.toArray = tab at *
  go_wp2
  go_loopw [4, 6] (fun _ v6 wr => ∃ i : Nat, v6 = .int .i64 (i : Int) ∧ i ≤ 8 ∧ Hid (kdn i n ∧ Up w wr)) (fun _ v6 _ => 8 - (intOf v6).toNat)
  case atStart => exact ⟨0, rfl, by omega, by simp [kdn], Up.refl _⟩
  case round =>
    obtain ⟨i, rfl, hi, hI⟩ := hrel
    by_cases hlt : i < 8
    · have hltz : (i : Int) < 8 := by omega
      obtain rfl | rfl | rfl | rfl | rfl | rfl | rfl | rfl : i = 0 ∨ i = 1 ∨ i = 2 ∨ i = 3 ∨ i = 4 ∨ i = 5 ∨ i = 6 ∨ i = 7 := by omega
      · by_cases h1 : 97 ≤ n ∧ n ≤ 122
        · have h2 : (97 : Int) ≤ (n : Int) := by omega
          have h3 : (n : Int) ≤ 122 := by omega
          have HK := Hid.of (And.intro (show kd n = 1 from by have := hI.out.1; unfold kdn at this; unfold kd; (repeat' split) <;> omega) trivial)
          clear h1
          go_wp2
          go_ret
          rw [HK.out.1]
          exact ⟨rfl, by repeat (first | exact hI.out.2 | apply Up.alloc)⟩
        · have HK := Hid.of (show kdn 1 n by have := hI.out.1; unfold kdn at this ⊢; omega)
          by_cases h2 : (97 : Int) ≤ (n : Int)
          · have h3 : ¬ (n : Int) ≤ 122 := by omega
            clear h1
            go_wp2
            go_roundw
            case rel => exact ⟨1, by go_num, by omega, HK.out, by repeat (first | exact hI.out.2 | apply Up.alloc)⟩
            case measure => simp [intOf]
          · clear h1
            go_wp2
            go_roundw
            case rel => exact ⟨1, by go_num, by omega, HK.out, by repeat (first | exact hI.out.2 | apply Up.alloc)⟩
            case measure => simp [intOf]
      · by_cases h1 : 65 ≤ n ∧ n ≤ 90
        · have h2 : (65 : Int) ≤ (n : Int) := by omega
          have h3 : (n : Int) ≤ 90 := by omega
          have HK := Hid.of (And.intro (show kd n = 2 from by have := hI.out.1; unfold kdn at this; unfold kd; (repeat' split) <;> omega) trivial)
          clear h1
          go_wp2
          go_ret
          rw [HK.out.1]
          exact ⟨rfl, by repeat (first | exact hI.out.2 | apply Up.alloc)⟩
        · have HK := Hid.of (show kdn 2 n by have := hI.out.1; unfold kdn at this ⊢; omega)
          by_cases h2 : (65 : Int) ≤ (n : Int)
          · have h3 : ¬ (n : Int) ≤ 90 := by omega
            clear h1
            go_wp2
            go_roundw
            case rel => exact ⟨2, by go_num, by omega, HK.out, by repeat (first | exact hI.out.2 | apply Up.alloc)⟩
            case measure => simp [intOf]
          · clear h1
            go_wp2
            go_roundw
            case rel => exact ⟨2, by go_num, by omega, HK.out, by repeat (first | exact hI.out.2 | apply Up.alloc)⟩
            case measure => simp [intOf]
      · by_cases h1 : 48 ≤ n ∧ n ≤ 57
        · have h2 : (48 : Int) ≤ (n : Int) := by omega
          have h3 : (n : Int) ≤ 57 := by omega
          have HK := Hid.of (And.intro (show kd n = 4 from by have := hI.out.1; unfold kdn at this; unfold kd; (repeat' split) <;> omega) trivial)
          clear h1
          go_wp2
          go_ret
          rw [HK.out.1]
          exact ⟨rfl, by repeat (first | exact hI.out.2 | apply Up.alloc)⟩
        · have HK := Hid.of (show kdn 3 n by have := hI.out.1; unfold kdn at this ⊢; omega)
          by_cases h2 : (48 : Int) ≤ (n : Int)
          · have h3 : ¬ (n : Int) ≤ 57 := by omega
            clear h1
            go_wp2
            go_roundw
            case rel => exact ⟨3, by go_num, by omega, HK.out, by repeat (first | exact hI.out.2 | apply Up.alloc)⟩
            case measure => simp [intOf]
          · clear h1
            go_wp2
            go_roundw
            case rel => exact ⟨3, by go_num, by omega, HK.out, by repeat (first | exact hI.out.2 | apply Up.alloc)⟩
            case measure => simp [intOf]
      · by_cases h1 : 45 ≤ n ∧ n ≤ 45
        · have h2 : (45 : Int) ≤ (n : Int) := by omega
          have h3 : (n : Int) ≤ 45 := by omega
          have HK := Hid.of (And.intro (show kd n = 8 from by have := hI.out.1; unfold kdn at this; unfold kd; (repeat' split) <;> omega) trivial)
          clear h1
          go_wp2
          go_ret
          rw [HK.out.1]
          exact ⟨rfl, by repeat (first | exact hI.out.2 | apply Up.alloc)⟩
        · have HK := Hid.of (show kdn 4 n by have := hI.out.1; unfold kdn at this ⊢; omega)
          by_cases h2 : (45 : Int) ≤ (n : Int)
          · have h3 : ¬ (n : Int) ≤ 45 := by omega
            clear h1
            go_wp2
            go_roundw
            case rel => exact ⟨4, by go_num, by omega, HK.out, by repeat (first | exact hI.out.2 | apply Up.alloc)⟩
            case measure => simp [intOf]
          · clear h1
            go_wp2
            go_roundw
            case rel => exact ⟨4, by go_num, by omega, HK.out, by repeat (first | exact hI.out.2 | apply Up.alloc)⟩
            case measure => simp [intOf]
      · by_cases h1 : 46 ≤ n ∧ n ≤ 46
        · have h2 : (46 : Int) ≤ (n : Int) := by omega
          have h3 : (n : Int) ≤ 46 := by omega
          have HK := Hid.of (And.intro (show kd n = 16 from by have := hI.out.1; unfold kdn at this; unfold kd; (repeat' split) <;> omega) trivial)
          clear h1
          go_wp2
          go_ret
          rw [HK.out.1]
          exact ⟨rfl, by repeat (first | exact hI.out.2 | apply Up.alloc)⟩
        · have HK := Hid.of (show kdn 5 n by have := hI.out.1; unfold kdn at this ⊢; omega)
          by_cases h2 : (46 : Int) ≤ (n : Int)
          · have h3 : ¬ (n : Int) ≤ 46 := by omega
            clear h1
            go_wp2
            go_roundw
            case rel => exact ⟨5, by go_num, by omega, HK.out, by repeat (first | exact hI.out.2 | apply Up.alloc)⟩
            case measure => simp [intOf]
          · clear h1
            go_wp2
            go_roundw
            case rel => exact ⟨5, by go_num, by omega, HK.out, by repeat (first | exact hI.out.2 | apply Up.alloc)⟩
            case measure => simp [intOf]
      · by_cases h1 : 95 ≤ n ∧ n ≤ 95
        · have h2 : (95 : Int) ≤ (n : Int) := by omega
          have h3 : (n : Int) ≤ 95 := by omega
          have HK := Hid.of (And.intro (show kd n = 32 from by have := hI.out.1; unfold kdn at this; unfold kd; (repeat' split) <;> omega) trivial)
          clear h1
          go_wp2
          go_ret
          rw [HK.out.1]
          exact ⟨rfl, by repeat (first | exact hI.out.2 | apply Up.alloc)⟩
        · have HK := Hid.of (show kdn 6 n by have := hI.out.1; unfold kdn at this ⊢; omega)
          by_cases h2 : (95 : Int) ≤ (n : Int)
          · have h3 : ¬ (n : Int) ≤ 95 := by omega
            clear h1
            go_wp2
            go_roundw
            case rel => exact ⟨6, by go_num, by omega, HK.out, by repeat (first | exact hI.out.2 | apply Up.alloc)⟩
            case measure => simp [intOf]
          · clear h1
            go_wp2
            go_roundw
            case rel => exact ⟨6, by go_num, by omega, HK.out, by repeat (first | exact hI.out.2 | apply Up.alloc)⟩
            case measure => simp [intOf]
      · by_cases h1 : 126 ≤ n ∧ n ≤ 126
        · have h2 : (126 : Int) ≤ (n : Int) := by omega
          have h3 : (n : Int) ≤ 126 := by omega
          have HK := Hid.of (And.intro (show kd n = 32 from by have := hI.out.1; unfold kdn at this; unfold kd; (repeat' split) <;> omega) trivial)
          clear h1
          go_wp2
          go_ret
          rw [HK.out.1]
          exact ⟨rfl, by repeat (first | exact hI.out.2 | apply Up.alloc)⟩
        · have HK := Hid.of (show kdn 7 n by have := hI.out.1; unfold kdn at this ⊢; omega)
          by_cases h2 : (126 : Int) ≤ (n : Int)
          · have h3 : ¬ (n : Int) ≤ 126 := by omega
            clear h1
            go_wp2
            go_roundw
            case rel => exact ⟨7, by go_num, by omega, HK.out, by repeat (first | exact hI.out.2 | apply Up.alloc)⟩
            case measure => simp [intOf]
          · clear h1
            go_wp2
            go_roundw
            case rel => exact ⟨7, by go_num, by omega, HK.out, by repeat (first | exact hI.out.2 | apply Up.alloc)⟩
            case measure => simp [intOf]
      · by_cases h1 : 47 ≤ n ∧ n ≤ 47
        · have h2 : (47 : Int) ≤ (n : Int) := by omega
          have h3 : (n : Int) ≤ 47 := by omega
          have HK := Hid.of (And.intro (show kd n = 64 from by have := hI.out.1; unfold kdn at this; unfold kd; (repeat' split) <;> omega) trivial)
          clear h1
          go_wp2
          go_ret
          rw [HK.out.1]
          exact ⟨rfl, by repeat (first | exact hI.out.2 | apply Up.alloc)⟩
        · have HK := Hid.of (show kdn 8 n by have := hI.out.1; unfold kdn at this ⊢; omega)
          by_cases h2 : (47 : Int) ≤ (n : Int)
          · have h3 : ¬ (n : Int) ≤ 47 := by omega
            clear h1
            go_wp2
            go_roundw
            case rel => exact ⟨8, by go_num, by omega, HK.out, by repeat (first | exact hI.out.2 | apply Up.alloc)⟩
            case measure => simp [intOf]
          · clear h1
            go_wp2
            go_roundw
            case rel => exact ⟨8, by go_num, by omega, HK.out, by repeat (first | exact hI.out.2 | apply Up.alloc)⟩
            case measure => simp [intOf]
    · have hltz : ¬ (i : Int) < 8 := by omega
      have HK := Hid.of (And.intro (show kd n = 0 from by have := hI.out.1; unfold kdn at this; unfold kd; (repeat' split) <;> omega) trivial)
      go_wp2
      go_ret
      rw [HK.out.1]
      exact ⟨rfl, hI.out.2⟩
end Go.Proofs.YtaphjbcnnkoffaaGreatDoor
