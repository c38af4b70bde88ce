import Derived.Test.YtbdbpmeaiiodgaaDoorNr
import Derived.Test.YtbdbpmeaiiodgaaDoorTa
namespace Go.Proofs.YtbdbpmeaiiodgaaDoor
open Go.RowKit TextNum
set_option maxRecDepth 100000 in
theorem num_walk (e : Int) (w : World) : Calls Tryd.prog 20 #[.int .i64 e] w fun r w' => r = .returned (.int .i64 e) ∧ w' = w := by
  go_enter Tryd.func20, Tryd.ntmps20
  go_wp2
  go_ret
  exact ⟨rfl, rfl⟩
theorem u8_of {n : Nat} (h : n < 256) : (UInt8.ofNat n).toNat = n := by rw [UInt8.toNat_ofNat', Nat.mod_eq_of_lt h]
theorem new_cells (w : World) (c : Array Value) (l : List UInt8) (h : c = (cb l).toArray) : Sl (w.alloc (Obj.cells c 5)) (Value.slice (some ⟨w.heap.size, 0, none⟩) l.length l.length) l := by
  subst h
  refine ⟨_, _, rfl, Nat.le_refl _, .inr ⟨_, _, rfl, by rw [World.alloc]; simp, fun j hj => ?_⟩⟩
  rw [World.cell?_alloc_at _ _ _ _ rfl, Nat.zero_add, List.getElem?_toArray, cb_get hj]
theorem new_three (w : World) {i : Nat} (h : i < 64) : Sl (w.alloc (Obj.cells #[Value.int IntKind.u8 226, Value.int IntKind.u8 128, Value.int IntKind.u8 (128 + (i : Int))] 5)) (Value.slice (some ⟨w.heap.size, 0, none⟩) 3 3) [226, 128, UInt8.ofNat (128 + i)] := by
  refine new_cells w _ [226, 128, UInt8.ofNat (128 + i)] ?_
  simp only [cb, List.map_cons, List.map_nil, u8_of (show 128 + i < 256 by omega)]
  simp
set_option maxRecDepth 100000 in
theorem names_walk (s : ByteArray) (hs : s.size ≤ 140737488355328) (w : World) (hW : Go.Lib.WhiteTab 3 w) (hB : BTab w) : Calls Tryd.prog 4 #[.string s] w fun e w' => e = .returned (.bool true) ∧ Up w w' := by
  go_enter Tryd.func4, Tryd.ntmps4
  go_wp2
  go_loopw [3] (fun v3 wr => ∃ i : Nat, v3 = .int .i64 (i : Int) ∧ i ≤ 64 ∧ Hid (Up w wr)) (fun v3 _ => 64 - (intOf v3).toNat)
  case atStart => exact ⟨0, rfl, by omega, Up.refl _⟩
  case round =>
    obtain ⟨i, rfl, hi, hU⟩ := hrel
    by_cases hlt : i < 64
    · have hlt' : (i : Int) < 64 := by omega
      have hcv := conv_sl (new_three wr hlt)
      have HV := Hid.of (hU.out.trans ((Up.refl wr).alloc (Obj.cells #[Value.int IntKind.u8 226, Value.int IntKind.u8 128, Value.int IntKind.u8 (128 + (i : Int))] 5)))
      have hq : ¬ 9223372036854775807 < s.size + [226, 128, UInt8.ofNat (128 + i)].length := by simp only [List.length_cons, List.length_nil]; omega
      generalize [226, 128, UInt8.ofNat (128 + i)] = l3 at hcv hq
      go_wp2_with fail
      clear hcv hq
      generalize wr.alloc (Obj.cells #[Value.int IntKind.u8 226, Value.int IntKind.u8 128, Value.int IntKind.u8 (128 + (i : Int))] 5) = wn at *
      generalize s ++ { data := l3.toArray } = s3
      refine (CheckName_walk s3 wn (WhiteTab_up hW HV.out)).mono ?_
      rintro e w1 ⟨rfl, hu1⟩
      have HU1 := Hid.of (HV.out.trans hu1)
      clear hu1
      dsimp only
      go_wp2_with fail
      refine (num_walk _ w1).mono ?_
      rintro e w2 ⟨rfl, hw2⟩
      obtain rfl := hw2.symm
      dsimp only
      go_wp2_with fail
      refine (RCheckName_walk s3 w1 (hB.up HU1.out)).mono ?_
      rintro e w2 ⟨rfl, hw2⟩
      obtain rfl := hw2.symm
      dsimp only
      generalize nameR s3 = r at *
      have hrr : (r == r) = true := by simp
      go_wp2
      go_roundw
      case rel => exact ⟨i + 1, by go_num, by omega, HU1⟩
      case measure => simp [intOf]; omega
    · have hlt' : ¬ (i : Int) < 64 := by omega
      go_wp2_with fail
      refine (CheckName_walk s wr (WhiteTab_up hW hU.out)).mono ?_
      rintro e w1 ⟨rfl, hu1⟩
      have HU1 := Hid.of (hU.out.trans hu1)
      clear hu1
      dsimp only
      go_wp2_with fail
      refine (num_walk _ w1).mono ?_
      rintro e w2 ⟨rfl, hw2⟩
      obtain rfl := hw2.symm
      dsimp only
      go_wp2_with fail
      refine (RCheckName_walk s w1 (hB.up HU1.out)).mono ?_
      rintro e w2 ⟨rfl, hw2⟩
      obtain rfl := hw2.symm
      dsimp only
      generalize nameR s = r at *
      have hrr : (r == r) = true := by simp
      go_wp2
      go_ret
      exact ⟨rfl, HU1.out⟩
end Go.Proofs.YtbdbpmeaiiodgaaDoor
