import Derived.Test.YtgfehlcindapmaaHb
namespace Go.Proofs.Ytgfehlcindapmaa
open Go.RowKit Go.Conc TextNum
/-- what comes n ticks late of a message that is sent at t -/
def ltr (t n m : Nat) (a : Option Addr) (c : Nat) (d : List UInt8) : Co := ⟨t + n, if 0 < n then 0 else 1, m, a, c, d⟩
set_option maxRecDepth 100000 in
set_option maxHeartbeats 1000000 in
theorem later_walk (w : World) (t n m : Nat) (a : Option Addr) (c : Nat) (d : List UInt8) (ht : t + n ≤ 4611686018427387904) :
    Calls Try.prog 44 #[.int .i64 (t : Int), .int .i64 (n : Int), .int .i64 (m : Int), .slice a d.length c] w fun e w' => e = .returned (.agg (coc (ltr t n m a c d)).toArray) ∧ Up w w' := by
  have hw : IntKind.i64.wrap ((t : Int) + (n : Int)) = ((t + n : Nat) : Int) := by rw [IntKind.wrap_i64]; omega
  have HA := Hid.of (show At ((w.alloc (.cells #[.int .i64 0, .int .i64 0, .int .i64 0, .slice none 0 0] 103)).alloc (.cells #[.int .i64 0, .int .i64 0, .int .i64 0, .slice none 0 0] 103)) w.heap.size 103 [.int .i64 0, .int .i64 0, .int .i64 0, .slice none 0 0] from (at_new w 103 [.int .i64 0, .int .i64 0, .int .i64 0, .slice none 0 0]).up ((Up.refl _).alloc (.cells #[.int .i64 0, .int .i64 0, .int .i64 0, .slice none 0 0] 103)))
  have hsz : (w.alloc (.cells #[.int .i64 0, .int .i64 0, .int .i64 0, .slice none 0 0] 103)).heap.size = w.heap.size + 1 := by show (w.heap.push _).size = _; rw [Array.size_push]
  have HB := Hid.of (show At ((w.alloc (.cells #[.int .i64 0, .int .i64 0, .int .i64 0, .slice none 0 0] 103)).alloc (.cells #[.int .i64 0, .int .i64 0, .int .i64 0, .slice none 0 0] 103)) (w.heap.size + 1) 103 [.int .i64 0, .int .i64 0, .int .i64 0, .slice none 0 0] from by
    have := at_new (w.alloc (.cells #[.int .i64 0, .int .i64 0, .int .i64 0, .slice none 0 0] 103)) 103 [.int .i64 0, .int .i64 0, .int .i64 0, .slice none 0 0]
    rw [hsz] at this
    exact this)
  have HU := Hid.of (((Up.refl w).alloc (.cells #[.int .i64 0, .int .i64 0, .int .i64 0, .slice none 0 0] 103)).alloc (.cells #[.int .i64 0, .int .i64 0, .int .i64 0, .slice none 0 0] 103))
  go_enter Try.func44, Try.ntmps44
  go_wp2_with (with_reducible show wpList _ _ _ ({ dst := _, op := Op.store 103 _ _, type := _, pos := _, after := _, guard := _ } :: _) _ _; refine Shut.out ?_)
  show wpList _ _ _ _ _ _
  clear hsz
  generalize (w.alloc (.cells #[.int .i64 0, .int .i64 0, .int .i64 0, .slice none 0 0] 103)).alloc (.cells #[.int .i64 0, .int .i64 0, .int .i64 0, .slice none 0 0] 103) = W0 at *
  generalize hb0 : w.heap.size = b0 at *
  refine wpList_store_at rfl 103 _ _ rfl (b0 + 1) HB.out [.int .i64 ((t + n : Nat) : Int), .int .i64 1, .int .i64 (m : Int), .slice a d.length c] rfl rfl rfl (by kernel_rfl) (by simp [Value.oneCell']) ?_
  intro w1 a1 g1
  have HX := Hid.of a1
  have HA1 := Hid.of (HA.out.by g1 (by simp))
  have HUX := Hid.of (HU.out.by g1 (fun g hg => by have := Option.some.inj hg; omega))
  clear HA HB HU a1 g1
  simp only [Act.put]
  by_cases hn : 0 < n
  · have hnz : (0 : Int) < (n : Int) := by omega
    have e : coc (ltr t n m a c d) = [.int .i64 ((t + n : Nat) : Int), .int .i64 0, .int .i64 (m : Int), .slice a d.length c] := by unfold ltr; rw [if_pos hn]; rfl
    have HE := Hid.of (And.intro e trivial)
    clear e hn
    have t1 := HX.out.thaw 1
    have c1 := HX.out.cell (i := 1) rfl
    have HX2 := Hid.of (HX.out.set 1 (.int .i64 0))
    simp only [List.set_cons_zero, List.set_cons_succ] at HX2
    have HA2 := Hid.of (HA1.out.by (grown_at w1 (b0 + 1) 1 (.int .i64 0)) (by simp))
    have HU2 := Hid.of (HUX.out.by (grown_at w1 (b0 + 1) 1 (.int .i64 0)) (fun g hg => by have := Option.some.inj hg; omega))
    clear HX HA1 HUX
    have HX := HX2
    have HA1 := HA2
    have HUX := HU2
    clear HX2 HA2 HU2
    go_wp2_with (with_reducible show wpList _ _ _ ({ dst := _, op := Op.load 103 _, type := _, pos := _, after := _, guard := _ } :: _) _ _; refine Shut.out ?_)
    show wpList _ _ _ _ _ _
    refine wpList_load_row rfl 103 _ rfl (b0 + 1) rfl 103 #[.int .i64 ((t + n : Nat) : Int), .int .i64 0, .int .i64 (m : Int), .slice a d.length c] (0, 0) _ HX.out Try.underlying103 rfl (by kernel_rfl) ?_
    simp only [Act.put, List.setIfInBounds_toArray, List.set_cons_zero, List.set_cons_succ]
    go_wp2_with (with_reducible show wpList _ _ _ ({ dst := _, op := Op.store 103 _ _, type := _, pos := _, after := _, guard := _ } :: _) _ _; refine Shut.out ?_)
    show wpList _ _ _ _ _ _
    refine wpList_store_at rfl 103 _ _ rfl b0 HA1.out [.int .i64 ((t + n : Nat) : Int), .int .i64 0, .int .i64 (m : Int), .slice a d.length c] rfl rfl rfl (by kernel_rfl) (by simp [Value.oneCell']) ?_
    intro w5 a5 g5
    simp only [Act.put]
    go_wp2
    refine bodyPost_ret (results_cell_row rfl _ _ b0 103 #[.int .i64 ((t + n : Nat) : Int), .int .i64 0, .int .i64 (m : Int), .slice a d.length c] (0, 0) _ rfl a5 Try.underlying103 rfl (by kernel_rfl)) rfl ?_
    rw [HE.out.1]
    exact ⟨rfl, HUX.out.by g5 (fun g hg => by have := Option.some.inj hg; omega)⟩
  · have hnz : ¬ (0 : Int) < (n : Int) := by omega
    have e : coc (ltr t n m a c d) = [.int .i64 ((t + n : Nat) : Int), .int .i64 1, .int .i64 (m : Int), .slice a d.length c] := by unfold ltr; rw [if_neg hn]; rfl
    have HE := Hid.of (And.intro e trivial)
    clear e hn
    go_wp2_with (with_reducible show wpList _ _ _ ({ dst := _, op := Op.load 103 _, type := _, pos := _, after := _, guard := _ } :: _) _ _; refine Shut.out ?_)
    show wpList _ _ _ _ _ _
    refine wpList_load_row rfl 103 _ rfl (b0 + 1) rfl 103 #[.int .i64 ((t + n : Nat) : Int), .int .i64 1, .int .i64 (m : Int), .slice a d.length c] (0, 0) _ HX.out Try.underlying103 rfl (by kernel_rfl) ?_
    simp only [Act.put, List.setIfInBounds_toArray, List.set_cons_zero, List.set_cons_succ]
    go_wp2_with (with_reducible show wpList _ _ _ ({ dst := _, op := Op.store 103 _ _, type := _, pos := _, after := _, guard := _ } :: _) _ _; refine Shut.out ?_)
    show wpList _ _ _ _ _ _
    refine wpList_store_at rfl 103 _ _ rfl b0 HA1.out [.int .i64 ((t + n : Nat) : Int), .int .i64 1, .int .i64 (m : Int), .slice a d.length c] rfl rfl rfl (by kernel_rfl) (by simp [Value.oneCell']) ?_
    intro w5 a5 g5
    simp only [Act.put]
    go_wp2
    refine bodyPost_ret (results_cell_row rfl _ _ b0 103 #[.int .i64 ((t + n : Nat) : Int), .int .i64 1, .int .i64 (m : Int), .slice a d.length c] (0, 0) _ rfl a5 Try.underlying103 rfl (by kernel_rfl)) rfl ?_
    rw [HE.out.1]
    exact ⟨rfl, HUX.out.by g5 (fun g hg => by have := Option.some.inj hg; omega)⟩
end Go.Proofs.Ytgfehlcindapmaa
