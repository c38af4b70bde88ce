import Derived.Test.YtbdbpmeaiiodgaaDoorOp
namespace Go.Proofs.YtbdbpmeaiiodgaaDoor
open Go.RowKit TextNum

theorem repA (k : Nat) : List.replicate (k + 1) (165 : UInt8) = List.replicate k 165 ++ [165] := by rw [List.replicate_succ']
set_option maxRecDepth 100000 in
set_option maxHeartbeats 1000000 in
theorem lent_walk (v : Value) (l : List UInt8) (w : World) (hS : Sl w v l) (hl : l.length ≤ 1048576) :
    Calls Tryd.prog 9 #[v] w fun e w' => ∃ v', e = .returned v' ∧ Own w' w.heap.size v' (l ++ List.replicate 400 165) ∧ Up w w' := by
  obtain ⟨a, c, ev, _, _⟩ := id hS
  subst ev
  have HS := Hid.of hS
  clear hS
  go_enter Tryd.func9, Tryd.ntmps9
  go_wp2_with (with_reducible show wpList _ _ _ ({ dst := _, op := Op.call { callee := Callee.builtin Builtin.append, args := _, argTypes := _ }, type := _, pos := _, after := _, guard := _ } :: _) _ _; refine Shut.out ?_)
  show wpList _ _ _ _ _ _
  refine wpList_appSl rfl _ _ rfl w.heap.size _ _ [] l rfl (by exact own_nil _ _) rfl (by exact HS.out) (by simp; omega) (Nat.le_refl _) ?_
  intro v1 w1 h1 b1
  simp only [Act.put, List.setIfInBounds_toArray, List.set_cons_zero, List.set_cons_succ]
  have H1 := Hid.of (And.intro h1 (show Up w w1 from b1))
  clear h1 b1
  go_wp2
  go_loopw [3, 4] (fun v3 v4 wr => ∃ i : Nat, v4 = .int .i64 (i : Int) ∧ i ≤ 400 ∧ Hid (Own wr w.heap.size v3 (l ++ List.replicate i 165) ∧ Up w wr)) (fun _ v4 _ => 400 - (intOf v4).toNat)
  case atStart => exact ⟨0, rfl, by omega, Hid.of (by simpa using H1.out)⟩
  case round =>
    obtain ⟨i, rfl, hi, hI⟩ := hrel
    by_cases hlt : i < 400
    · have hlt' : (i : Int) < 400 := by omega
      have HR := Hid.of (repA i)
      go_wp2_with (with_reducible show wpList _ _ _ ({ dst := _, op := Op.call { callee := Callee.builtin Builtin.append, args := _, argTypes := _ }, type := _, pos := _, after := _, guard := _ } :: _) _ _; refine Shut.out ?_)
      show wpList _ _ _ _ _ _
      refine wpList_app1 rfl _ _ rfl w.heap.size _ (l ++ List.replicate i 165) [165] rfl (by exact hI.out.1) 1 rfl (by simp; omega) hI.out.2.size ?_
      intro v' w3 h3 b3
      have H3 := Hid.of (And.intro h3 (hI.out.2.step (Nat.le_refl _) b3))
      clear h3 b3
      simp only [Act.put, List.setIfInBounds_toArray, List.set_cons_zero, List.set_cons_succ]
      go_wp2
      go_roundw
      case rel => exact ⟨i + 1, by go_num, by omega, by rw [HR.out, ← List.append_assoc]; exact H3.out.1, H3.out.2⟩
      case measure => simp [intOf]; omega
    · obtain rfl : i = 400 := by omega
      go_wp2
      go_ret
      exact ⟨_, rfl, hI.out.1, hI.out.2⟩

set_option maxRecDepth 100000 in
set_option maxHeartbeats 1000000 in
theorem untouched_walk (v : Value) (l : List UInt8) (w : World) (hS : Sl w v (l ++ List.replicate 400 165)) (hl : l.length ≤ 1048576) :
    Calls Tryd.prog 13 #[v, vs l] w fun e w' => e = .returned (.bool true) ∧ w' = w := by
  obtain ⟨a, c, ev, hc, hcell⟩ := id hS
  rcases hcell with e0 | ⟨b, off, ea, hb, hcell⟩
  · simp at e0
  subst ea
  rw [List.length_append, List.length_replicate] at ev hc
  subst ev
  have hcv := conv_sl (sl_take (k := l.length) hS (by simp))
  rw [List.take_left' rfl] at hcv
  have HC := Hid.of (show ∀ i, l.length ≤ i → i < l.length + 400 → w.cell? ⟨b, off + i, none⟩ = some (.int .u8 165) from fun i h1 h2 => by
    have := hcell i (by simp; omega)
    rw [this, List.getElem_append_right h1, List.getElem_replicate]; rfl)
  clear hS hcell
  obtain ⟨sb, hsb⟩ : ∃ sb : ByteArray, sb = ⟨l.toArray⟩ := ⟨_, rfl⟩
  rw [show vs l = .string sb by rw [hsb]]
  have hsz : l.length = sb.size := by rw [hsb, Go.Lib.size_eq]
  rw [hsz] at hl hc hcv HC ⊢
  rw [show vs l = .string sb by rw [hsb]] at hcv
  clear hsb hsz
  go_enter Tryd.func13, Tryd.ntmps13
  go_wp2
  go_loop [5] (fun v5 => ∃ i : Nat, v5 = .int .i64 (i : Int) ∧ sb.size ≤ i ∧ i ≤ sb.size + 400) (fun v5 => sb.size + 400 - (intOf v5).toNat)
  case atStart => exact ⟨sb.size, rfl, by omega, by omega⟩
  case round =>
    obtain ⟨i, rfl, hi0, hi⟩ := hrel
    by_cases hlt : i < sb.size + 400
    · have hlt' : (i : Int) < (sb.size : Int) + 400 := by omega
      have hcx := HC.out i hi0 hlt
      go_wp2
      go_round
      case rel => exact ⟨i + 1, by go_num, by omega, by omega⟩
      case measure => simp [intOf]; omega
    · have hlt' : ¬ (i : Int) < (sb.size : Int) + 400 := by omega
      go_wp2
      go_ret
      exact ⟨by simp, rfl⟩

set_option maxRecDepth 100000 in
/-- what a reading call gave, by the text's length -/
theorem back_walk (n : Nat) (v : Value) (g l : List UInt8) (er : Int) (w : World) (hS : Sl w v g) (h : (1048576 < n ∧ er = 2 ∧ g = []) ∨ (n ≤ 1048576 ∧ er = 0 ∧ g = l)) :
    Calls Tryd.prog 15 #[.int .i64 (n : Int), v, .int .i64 er, vs l] w fun e w' => e = .returned (.bool true) ∧ w' = w := by
  have hcv := conv_sl hS
  obtain ⟨a, c, ev, _, _⟩ := id hS
  subst ev
  clear hS
  rcases h with ⟨h1, rfl, rfl⟩ | ⟨h1, rfl, rfl⟩
  · have d1 : (1048576 : Int) < (n : Int) := by omega
    go_enter Tryd.func15, Tryd.ntmps15
    go_wp2
    go_ret
    exact ⟨by simp, rfl⟩
  · have d1 : ¬ (1048576 : Int) < (n : Int) := by omega
    go_enter Tryd.func15, Tryd.ntmps15
    go_wp2
    go_ret
    exact ⟨by simp, rfl⟩
end Go.Proofs.YtbdbpmeaiiodgaaDoor
