import Derived.Test.YtnopkpalohehkaaPc
namespace Go.Proofs.Ytnopkpalohehkaa
open Go.RowKit Tlg

theorem wpList_run {P : Program} {ops : Array Oper} {Q : Exit → Act → World → Prop} {a : Act} {w w' : World} {rest : List Oper} {o : Oper} {v : Value} (hg : o.guard = none) (he : (execOp a.eval o).run P w = .ok (.value v) w') (h : wpList P ops Q rest (a.put o.dst v) w') : wpList P ops Q (o :: rest) a w :=
  wpList_plain hg fun K hK => by unfold Oper.wp; rw [he]; exact hK _ _ h
theorem places_any (k L n : Int) (hk0 : 4 ≤ k) (hk1 : k ≤ 8) (b0 : -9223372036854775808 ≤ L) (b1 : L ≤ 9223372036854775807) (h0 : -9223372036854775808 ≤ n) (h1 : n ≤ 9223372036854775807) (w : World) :
    Calls Try.prog 12 #[.agg (opl k L n).toArray] w fun e w' => e = .returned (.bool true) ∧ Up w w' := by
  obtain rfl | rfl | rfl | rfl | rfl : k = 4 ∨ k = 5 ∨ k = 6 ∨ k = 7 ∨ k = 8 := by omega
  · exact places_index L n b0 b1 h0 h1 w
  · exact places_split L n h0 h1 w
  · exact places_count L n h0 h1 w
  · exact places_records L n h0 h1 w
  · exact places_peaks L n h0 h1 w

set_option maxRecDepth 100000 in
set_option maxHeartbeats 1000000 in
theorem tplaces_walk (L n : Int) (b0 : -9223372036854775808 ≤ L) (b1 : L ≤ 9223372036854775807) (h0 : -9223372036854775808 ≤ n) (h1 : n ≤ 9223372036854775807) (w : World) :
    Calls Try.prog 6 #[.int .i64 L, .int .i64 n] w fun e w' => e = .returned (.bool true) ∧ Up w w' := by
  go_enter Try.func6, Try.ntmps6
  go_wp2
  go_loopw [5] (fun v5 wr => ∃ k : Nat, v5 = .int .i64 (k : Int) ∧ 4 ≤ k ∧ k ≤ 9 ∧ Hid (Up w wr)) (fun v5 _ => 9 - (intOf v5).toNat)
  case atStart => exact ⟨4, rfl, by omega, by omega, Up.refl _⟩
  case round =>
    obtain ⟨k, rfl, hk0, hk1, hU⟩ := hrel
    by_cases hlt : k ≤ 8
    · have hlt' : (k : Int) ≤ 8 := by omega
      go_wp2_with (with_reducible show wpList _ _ _ ({ dst := _, op := Op.build _ _, type := _, pos := _, after := _, guard := _ } :: _) _ _; refine Shut.out ?_)
      show wpList _ _ _ _ _ _
      refine wpList_run (v := .agg (opl k L n).toArray) (w' := wr) rfl (by kernel_rfl) ?_
      simp only [Act.put, List.setIfInBounds_toArray, List.set_cons_zero, List.set_cons_succ]
      go_wp2_with fail
      refine (places_any (k : Int) L n (by omega) hlt' b0 b1 h0 h1 wr).mono ?_
      rintro e w2 ⟨rfl, u2⟩
      have H2 := Hid.of (hU.out.trans u2)
      clear u2
      dsimp only
      go_wp2
      go_roundw
      case rel => exact ⟨k + 1, by go_num, by omega, by omega, H2⟩
      case measure => simp [intOf]; omega
    · obtain rfl : k = 9 := by omega
      go_wp2
      go_ret
      exact ⟨rfl, hU.out⟩
end Go.Proofs.Ytnopkpalohehkaa
