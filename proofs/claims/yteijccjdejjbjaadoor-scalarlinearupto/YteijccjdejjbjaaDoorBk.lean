import Derived.Test.YteijccjdejjbjaaDoorVk
namespace Go.Proofs.YteijccjdejjbjaaDoor
open Go.RowKit Go.Shelf ScalarNum
attribute [local go_sem] Oper.semAt_some

theorem w64i (n : Int) : IntKind.i64.wrap n = wrap64 n := by
  simp only [IntKind.wrap, IntKind.signed, IntKind.bits, wrap64]; simp; omega
abbrev I8 := { d : Int // -128 ≤ d ∧ d ≤ 127 }
/-- what has come when k rounds are over, from the last on -/
def down (len : Nat) (f : Nat → I8) (k : Nat) : List (Int × I8) := (List.range k).map fun (j : Nat) => (((len : Int) - 1 - (j : Int) : Int), f (len - 1 - j))
theorem down_succ (len : Nat) (f : Nat → I8) (k : Nat) : down len f (k + 1) = down len f k ++ [((len : Int) - 1 - (k : Int), f (len - 1 - k))] := by simp [down, List.range_succ]
theorem down_length (len : Nat) (f : Nat → I8) (k : Nat) : (down len f k).length = k := by simp [down]

/-- the slice holds the digits f 0, .., f (len - 1), in a block below n -/
def DigS (n : Nat) (W : World) (sv : Value) (len : Nat) (f : Nat → I8) : Prop :=
  (len = 0 ∧ ∃ a c, sv = .slice a 0 c) ∨ ∃ b off cap, sv = .slice (some ⟨b, off, none⟩) len cap ∧ b < n ∧ ∀ j, j < len → W.cell? ⟨b, off + j, none⟩ = some (.int .i8 (f j).1)

set_option maxRecDepth 100000 in
set_option maxHeartbeats 1000000 in
theorem back_in (a : Option Addr) (len cap : Nat) (w : World) : Calls Tryd.prog 64 #[.slice a len cap] w fun e w' => e = .returned (.func (.func 69) #[] #[.pointer (some ⟨w.heap.size, 0, none⟩)]) ∧ w' = w.alloc (.cells #[.slice a len cap] 30) := by
  go_enter Tryd.func64, Tryd.ntmps64
  go_wp2
  go_ret
  exact ⟨rfl, rfl⟩

set_option maxRecDepth 100000 in
set_option maxHeartbeats 2000000 in
theorem back1_in (n : Nat) (hn : 1 ≤ n) (l Bs n₀ xb b off len cap : Nat) (f : Nat → I8) (hreach : len ≤ 300) (hb : b < n₀) (hBn : Bs < n₀) (hbx : b ≠ xb) (hBx : Bs ≠ xb) (J Jx : List (Int × I8) → World → Prop)
    (hY : ∀ pre x W, J pre W → pre.length < len → YieldAt Fence.wide (n - 1) Tryd.prog l #[.int .i64 x.1, .int .i8 x.2.1] W fun e W' =>
      (e = .returned (.bool true) ∧ J (pre ++ [x]) W' ∧ CellsLow n₀ xb W W') ∨ (e = .returned (.bool false) ∧ Jx (pre ++ [x]) W'))
    (W : World) (hBs : W.cell? ⟨Bs, 0, none⟩ = some (.slice (some ⟨b, off, none⟩) len cap)) (hc : ∀ j, j < len → W.cell? ⟨b, off + j, none⟩ = some (.int .i8 (f j).1)) (h0 : J [] W) :
    CallsIn Fence.wide n Tryd.prog 69 #[.func (.yield l) #[] #[], .pointer (some ⟨Bs, 0, none⟩)] W fun e W' => (∃ v, e = .returned v) ∧
      ((∃ ys, ys = down len f len ∧ J ys W') ∨ (∃ pre, True ∧ Jx pre W')) := by
  refine callsIn_of_wp Tryd.func69 rfl trivial ?_ rfl
  simp only [Tryd.ntmps69, List.size_toArray, List.length_cons, List.length_nil, Nat.reduceAdd, Nat.reduceSub, Array.replicate_succ, Array.replicate_zero, List.push_toArray, List.append_toArray, List.nil_append, List.cons_append]
  have e0 : IntKind.i64.wrap ((len : Int) - 1) = (len : Int) - 1 := by rw [w64i]; unfold wrap64; omega
  gi_wp2
  gi_loopw [3] (fun i wr => ∃ k : Nat, k ≤ len ∧ i = .int .i64 ((len : Int) - 1 - k) ∧ J (down len f k) wr ∧ CellsLow n₀ xb W wr)
    (fun i _ => (intOf i + 1).toNat)
  case atStart => exact ⟨0, Nat.zero_le _, by simp, h0, fun _ _ _ => rfl⟩
  case round =>
    obtain ⟨k, hk, rfl, hJs, hnx⟩ := hrel
    have hbs' : wr.cell? ⟨Bs, 0, none⟩ = some (.slice (some ⟨b, off, none⟩) len cap) := (hnx ⟨Bs, 0, none⟩ hBn hBx).trans hBs
    by_cases hlt : k < len
    · obtain ⟨i, hi⟩ : ∃ i : Nat, i = len - 1 - k := ⟨_, rfl⟩
      have hi2 : (len : Int) - 1 - (k : Int) = (i : Int) := by omega
      have hcx : wr.cell? ⟨b, off + i, none⟩ = some (.int .i8 (f i).1) := (hnx ⟨b, off + i, none⟩ hb hbx).trans (hc _ (by omega))
      obtain ⟨fn, tmps, assign, body, hy, hR⟩ := hY _ ((i : Int), f i) wr hJs (by rw [down_length]; exact hlt)
      dsimp only at hy
      have hds := down_succ len f k
      rw [← hi, hi2] at hds
      rw [hi2]
      have e1 : IntKind.i64.wrap ((i : Int) - 1) = (i : Int) - 1 := by rw [w64i]; unfold wrap64; omega
      have hil : i < len := by omega
      have hk1 : k + 1 ≤ len := by omega
      have e2 : (i : Int) - 1 = (len : Int) - 1 - ((k + 1 : Nat) : Int) := by omega
      have HD := Hid.of (And.intro hds (And.intro e2 hk1))
      clear hds e2 hi hi2 hk1 hk hlt
      generalize down len f k = pre at *
      gi_wp2
      refine hR.mono ?_
      rintro e W3 (⟨rfl, hJ3, hk3⟩ | ⟨rfl, hJx3⟩)
      · gi_wp2
        go_roundw
        case rel => exact ⟨k + 1, HD.out.2.2, by rw [HD.out.2.1], by rw [HD.out.1]; exact hJ3, cellsLow_t hnx hk3⟩
        case measure => simp [intOf]
      · gi_wp2
        refine bodyPost_ret (results_none rfl _ _ _) rfl ?_
        exact ⟨⟨_, rfl⟩, .inr ⟨_, trivial, hJx3⟩⟩
    · obtain rfl : k = len := by omega
      have e3 : (k : Int) - 1 - (k : Int) = -1 := by omega
      rw [e3]
      gi_wp2
      go_end0
      exact ⟨⟨_, rfl⟩, .inl ⟨_, rfl, hJs⟩⟩

set_option maxRecDepth 100000 in
set_option maxHeartbeats 1000000 in
theorem back1_nil (n : Nat) (l Bs : Nat) (a : Option Addr) (c : Nat) (J : List (Int × I8) → World → Prop) (W : World) (hBs : W.cell? ⟨Bs, 0, none⟩ = some (.slice a 0 c)) (h0 : J [] W) :
    CallsIn Fence.wide n Tryd.prog 69 #[.func (.yield l) #[] #[], .pointer (some ⟨Bs, 0, none⟩)] W fun e W' => (∃ v, e = .returned v) ∧ J [] W' := by
  refine callsIn_of_wp Tryd.func69 rfl trivial ?_ rfl
  simp only [Tryd.ntmps69, List.size_toArray, List.length_cons, List.length_nil, Nat.reduceAdd, Nat.reduceSub, Array.replicate_succ, Array.replicate_zero, List.push_toArray, List.append_toArray, List.nil_append, List.cons_append]
  gi_wp2
  gi_loopw [3] (fun i wr => i = .int .i64 (-1) ∧ J [] wr) (fun _ _ => 0)
  case atStart => exact ⟨rfl, h0⟩
  case round =>
    obtain ⟨rfl, hJs⟩ := hrel
    gi_wp2
    go_end0
    exact ⟨⟨_, rfl⟩, hJs⟩

theorem back_stops (n : Nat) (hn : 1 ≤ n) (Bs n₁ n₀ xb : Nat) (sv : Value) (len : Nat) (f : Nat → I8) (hlen : len ≤ 300) (w : World) (hBn : Bs < n₀) (hn₀ : n₀ ≤ w.heap.size) (hn₁ : n₁ ≤ n₀) (hn₁x : n₁ ≤ xb) (hBx : Bs ≠ xb)
    (hc : w.cell? ⟨Bs, 0, none⟩ = some sv) (hI : DigS n₁ w sv len f) :
    SeqStopsK Fence.wide n Tryd.prog 69 #[.pointer (some ⟨Bs, 0, none⟩)] (fun x : Int × I8 => #[Value.int .i64 x.1, Value.int .i8 x.2.1]) (CellsLow n₀ xb) (fun ys => ys = down len f len) (fun _ => True) len w := fun l J Jx W hW _ _ hY h0 => by
  have hc' := (hW.cell (p := ⟨Bs, 0, none⟩) (by show Bs < _; omega)).trans hc
  rcases hI with ⟨rfl, a, c, rfl⟩ | ⟨b, off, cap, rfl, hb, hcs⟩
  · exact (back1_nil n l Bs a c J W hc' h0).mono fun e W' ⟨he, hj⟩ => ⟨he, .inl ⟨_, rfl, hj⟩⟩
  · exact back1_in n hn l Bs n₀ xb b off len cap f hlen (by omega) hBn (by omega) hBx J Jx hY W hc' (fun j hj => (hW.cell (p := ⟨b, off + j, none⟩) (by show b < _; omega)).trans (hcs j hj)) h0
end Go.Proofs.YteijccjdejjbjaaDoor
