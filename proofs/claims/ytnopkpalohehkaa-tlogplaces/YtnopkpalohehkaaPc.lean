import Derived.Test.YtnopkpalohehkaaSa
namespace Go.Proofs.Ytnopkpalohehkaa
open Go.RowKit Tlg

/-- a call as a value -/
abbrev opl (k L n : Int) : List Value := [.int .i64 k, .int .i64 0, .int .i64 L, .int .i64 n, .slice none 0 0, .int .u8 0, .int .u8 0, .int .u8 0, .int .u8 0, .int .u8 0, .int .u8 0, .int .u8 0, .int .u8 0, .int .u8 0, .int .u8 0, .int .u8 0, .int .u8 0, .int .u8 0, .int .u8 0, .int .u8 0, .int .u8 0, .int .u8 0, .int .u8 0, .int .u8 0, .int .u8 0, .int .u8 0, .int .u8 0, .int .u8 0, .int .u8 0, .int .u8 0, .int .u8 0, .int .u8 0, .int .u8 0, .int .u8 0, .int .u8 0, .int .u8 0, .int .u8 0, .int .u8 0, .int .u8 0, .int .u8 0, .int .u8 0, .int .u8 0, .int .u8 0, .int .u8 0, .int .u8 0, .int .u8 0, .int .u8 0, .int .u8 0, .int .u8 0, .int .u8 0, .int .u8 0, .int .u8 0, .int .u8 0, .int .u8 0, .int .u8 0, .int .u8 0, .int .u8 0, .int .u8 0, .int .u8 0, .int .u8 0, .int .u8 0, .int .u8 0, .int .u8 0, .int .u8 0, .int .u8 0, .int .u8 0, .int .u8 0, .int .u8 0, .int .u8 0, .slice none 0 0, .int .i64 0]
theorem opl_at (w : World) (k L n : Int) (t : TypeId) (i : Nat) (v : Value) (h : (opl k L n)[i]? = some v) : (w.alloc (.cells (opl k L n).toArray t)).cell? ⟨w.heap.size, i, none⟩ = some v := by
  have := cells_new w t (opl k L n) i v h
  rwa [add_plain, Nat.zero_add] at this

set_option maxRecDepth 100000 in
set_option maxHeartbeats 1000000 in
theorem places_index (L n : Int) (b0 : -9223372036854775808 ≤ L) (b1 : L ≤ 9223372036854775807) (h0 : -9223372036854775808 ≤ n) (h1 : n ≤ 9223372036854775807) (w : World) :
    Calls Try.prog 12 #[.agg (opl 4 L n).toArray] w fun e w' => e = .returned (.bool true) ∧ Up w w' := by
  have HK : Hid (∀ w1, Up (w.alloc (.cells (opl 4 L n).toArray 39)) w1 → w1.cell? ⟨w.heap.size, 2, none⟩ = some (.int .i64 L) ∧ w1.cell? ⟨w.heap.size, 3, none⟩ = some (.int .i64 n)) := fun w1 u => ⟨u.cell (opl_at w 4 L n 39 2 _ rfl), u.cell (opl_at w 4 L n 39 3 _ rfl)⟩
  go_enter Try.func12, Try.ntmps12
  go_wp2_with fail
  refine (Index_walk L n b0 b1 h0 h1 _).mono ?_
  rintro e w1 ⟨rfl, rfl⟩
  dsimp only
  go_wp2_with fail
  refine (RIndex_walk L n b0 b1 h0 h1 _).mono ?_
  rintro e w2 ⟨rfl, rfl⟩
  dsimp only
  have x1 : ((idx L n).1 == (idx L n).1) = true := by simp
  have x2 : ((idx L n).2 == (idx L n).2) = true := by simp
  generalize idx L n = p at *
  go_wp2
  go_ret
  exact ⟨rfl, (Up.refl w).alloc _⟩

set_option maxRecDepth 100000 in
set_option maxHeartbeats 1000000 in
theorem places_count (L n : Int) (h0 : -9223372036854775808 ≤ n) (h1 : n ≤ 9223372036854775807) (w : World) :
    Calls Try.prog 12 #[.agg (opl 6 L n).toArray] w fun e w' => e = .returned (.bool true) ∧ Up w w' := by
  have HK : Hid (∀ w1, Up (w.alloc (.cells (opl 6 L n).toArray 39)) w1 → w1.cell? ⟨w.heap.size, 2, none⟩ = some (.int .i64 L) ∧ w1.cell? ⟨w.heap.size, 3, none⟩ = some (.int .i64 n)) := fun w1 u => ⟨u.cell (opl_at w 6 L n 39 2 _ rfl), u.cell (opl_at w 6 L n 39 3 _ rfl)⟩
  go_enter Try.func12, Try.ntmps12
  go_wp2_with fail
  refine (Count_walk n h0 h1 _).mono ?_
  rintro e w1 ⟨rfl, rfl⟩
  dsimp only
  go_wp2_with fail
  refine (RCount_walk n h0 h1 _).mono ?_
  rintro e w2 ⟨rfl, rfl⟩
  dsimp only
  have x1 : ((cnt n).1 == (cnt n).1) = true := by simp
  have x2 : ((cnt n).2 == (cnt n).2) = true := by simp
  generalize cnt n = p at *
  go_wp2
  go_ret
  exact ⟨rfl, (Up.refl w).alloc _⟩

set_option maxRecDepth 100000 in
set_option maxHeartbeats 1000000 in
theorem places_records (L n : Int) (h0 : -9223372036854775808 ≤ n) (h1 : n ≤ 9223372036854775807) (w : World) :
    Calls Try.prog 12 #[.agg (opl 7 L n).toArray] w fun e w' => e = .returned (.bool true) ∧ Up w w' := by
  have HK : Hid (∀ w1, Up (w.alloc (.cells (opl 7 L n).toArray 39)) w1 → w1.cell? ⟨w.heap.size, 2, none⟩ = some (.int .i64 L) ∧ w1.cell? ⟨w.heap.size, 3, none⟩ = some (.int .i64 n)) := fun w1 u => ⟨u.cell (opl_at w 7 L n 39 2 _ rfl), u.cell (opl_at w 7 L n 39 3 _ rfl)⟩
  go_enter Try.func12, Try.ntmps12
  go_wp2_with fail
  refine (Records_walk n h0 h1 _).mono ?_
  rintro e w1 ⟨rfl, rfl⟩
  dsimp only
  go_wp2_with fail
  refine (RRecords_walk n h0 h1 _).mono ?_
  rintro e w2 ⟨rfl, rfl⟩
  dsimp only
  have x1 : ((rec' n).1 == (rec' n).1) = true := by simp
  have x2 : ((rec' n).2 == (rec' n).2) = true := by simp
  generalize rec' n = p at *
  go_wp2
  go_ret
  exact ⟨rfl, (Up.refl w).alloc _⟩

set_option maxRecDepth 100000 in
set_option maxHeartbeats 1000000 in
theorem places_split (L n : Int) (h0 : -9223372036854775808 ≤ n) (h1 : n ≤ 9223372036854775807) (w : World) :
    Calls Try.prog 12 #[.agg (opl 5 L n).toArray] w fun e w' => e = .returned (.bool true) ∧ Up w w' := by
  have HK : Hid (∀ w1, Up (w.alloc (.cells (opl 5 L n).toArray 39)) w1 → w1.cell? ⟨w.heap.size, 2, none⟩ = some (.int .i64 L) ∧ w1.cell? ⟨w.heap.size, 3, none⟩ = some (.int .i64 n)) := fun w1 u => ⟨u.cell (opl_at w 5 L n 39 2 _ rfl), u.cell (opl_at w 5 L n 39 3 _ rfl)⟩
  go_enter Try.func12, Try.ntmps12
  go_wp2_with fail
  refine (Split_walk n h0 h1 _).mono ?_
  rintro e w1 ⟨rfl, u1⟩
  have hk := (HK.out w1 u1).2
  have U1 := Hid.of (((Up.refl w).alloc _).trans u1)
  clear u1
  dsimp only
  go_wp2_with fail
  refine (RSplit_walk n h0 h1 _).mono ?_
  rintro e w2 ⟨rfl, u2⟩
  have U2 := Hid.of (U1.out.trans u2)
  clear u2 hk U1
  dsimp only
  have x1 : ((spl n).1 == (spl n).1) = true := by simp
  have x2 : ((spl n).2.1 == (spl n).2.1) = true := by simp
  have x3 : ((spl n).2.2 == (spl n).2.2) = true := by simp
  generalize spl n = p at *
  go_wp2
  go_ret
  exact ⟨rfl, U2.out⟩

set_option maxRecDepth 100000 in
set_option maxHeartbeats 1000000 in
theorem places_peaks (L n : Int) (h0 : -9223372036854775808 ≤ n) (h1 : n ≤ 9223372036854775807) (w : World) :
    Calls Try.prog 12 #[.agg (opl 8 L n).toArray] w fun e w' => e = .returned (.bool true) ∧ Up w w' := by
  have HK : Hid (∀ w1, Up (w.alloc (.cells (opl 8 L n).toArray 39)) w1 → w1.cell? ⟨w.heap.size, 2, none⟩ = some (.int .i64 L) ∧ w1.cell? ⟨w.heap.size, 3, none⟩ = some (.int .i64 n)) := fun w1 u => ⟨u.cell (opl_at w 8 L n 39 2 _ rfl), u.cell (opl_at w 8 L n 39 3 _ rfl)⟩
  go_enter Try.func12, Try.ntmps12
  go_wp2_with fail
  refine (Peaks_walk n h0 h1 _).mono ?_
  rintro e w1 ⟨v1, rfl, o1, u1⟩
  have hk := (HK.out w1 u1).2
  have U1 := Hid.of (And.intro (((Up.refl w).alloc _).trans u1) o1)
  clear u1 o1
  dsimp only
  go_wp2_with fail
  refine (RPeaks_walk n h0 h1 _).mono ?_
  rintro e w2 ⟨v2, rfl, o2, u2⟩
  have U2 := Hid.of (And.intro (U1.out.1.trans u2) (And.intro (U1.out.2.below u2) o2))
  clear u2 hk U1 o2
  dsimp only
  have hl : Hid ((pks n).length ≤ 49) := by
    show (pks n).length ≤ 49
    unfold pks
    split
    · exact pk_len _ _
    · simp
  go_wp2_with fail
  refine (sames_walk v1 v2 (pks n) _ _ w2 U2.out.2.1 U2.out.2.2 hl.out).mono ?_
  rintro e w3 ⟨rfl, u3⟩
  have U3 := Hid.of (U2.out.1.trans u3)
  clear u3 U2 hl
  have x1 : (pkE n == pkE n) = true := by simp
  generalize pkE n = p at *
  dsimp only
  go_wp2
  go_ret
  exact ⟨rfl, U3.out⟩
end Go.Proofs.Ytnopkpalohehkaa
