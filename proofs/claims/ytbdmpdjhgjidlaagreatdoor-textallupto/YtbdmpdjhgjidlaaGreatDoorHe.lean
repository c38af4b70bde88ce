import Derived.Test.YtbdmpdjhgjidlaaGreatDoorHx
namespace Go.Proofs.YtbdmpdjhgjidlaaGreatDoor
open Go.RowKit TextNum

theorem take_succ {l : List UInt8} {i : Nat} (h : i < l.length) : l.take (i + 1) = l.take i ++ [l[i]] := by simp
set_option maxRecDepth 100000 in
theorem EncodeHex_walk (v : Value) (l : List UInt8) (w : World) (hT : TabD w) (hS : Sl w v l) (hl : l.length ≤ 1099511627776) :
    Calls Tryz.prog 13 #[v] w fun e w' => e = .returned (vs (hexE l)) ∧ Up w w' := by
  obtain ⟨a, c, rfl, _, hS⟩ := hS
  have HT := Hid.of (And.intro hT hS)
  clear hT hS
  go_enter Tryz.func13, Tryz.ntmps13
  go_wp2_with (with_reducible show wpList _ _ _ ({ dst := _, op := Op.makeSlice 23 _ _, type := _, pos := _, after := _, guard := _ } :: _) _ _; refine Shut.out ?_)
  show wpList _ _ _ _ _ _
  refine wpList_mk rfl _ _ rfl _ _ _ (2 * l.length) rfl rfl (by omega) (by omega) ?_
  intro w1 h1 u1
  simp only [Act.put, List.setIfInBounds_toArray, List.set_cons_zero, List.set_cons_succ]
  have H1 := Hid.of (And.intro h1 u1)
  clear h1 u1
  go_wp2
  go_loopw [3, 12] (fun v3 v12 wr => ∃ i : Nat, v12 = .int .i64 (i : Int) ∧ i ≤ l.length ∧ Hid (Own wr w.heap.size v3 (hexE (l.take i)) ∧ Up w wr)) (fun _ v12 _ => l.length - (intOf v12).toNat)
  case atStart => exact ⟨0, rfl, by omega, H1.out.1, H1.out.2⟩
  case round =>
    obtain ⟨i, rfl, hi, hI⟩ := hrel
    by_cases hlt : i < l.length
    · rcases HT.out.2 with e | ⟨b, off, rfl, hb, hc⟩
      · subst e; simp at hlt
      · have hcx := hI.out.2.cell (hc i hlt)
        have hlt' : (i : Int) < (l.length : Int) := by omega
        have HX := Hid.of (hexE_snoc (l.take i) l[i])
        rw [← take_succ hlt] at HX
        have hlen : (hexE (l.take i)).length + 2 ≤ 140737488355328 := by rw [hexE_length]; simp; omega
        have HL := Hid.of hlen
        clear hlen hc
        generalize l[i] = x at *
        go_wp2_with fail
        refine (appendDigits_walk w.heap.size _ (hexE (l.take i)) x wr (HT.out.1.up hI.out.2) hI.out.1 HL.out hI.out.2.size).mono ?_
        rintro e w2 ⟨v', rfl, h2, b2⟩
        dsimp only
        go_wp2
        go_roundw
        case rel => exact ⟨i + 1, by go_num, by omega, by rw [HX.out]; exact h2, hI.out.2.step (Nat.le_refl _) b2⟩
        case measure => simp [intOf]; omega
    · obtain rfl : i = l.length := by omega
      have hcv := conv_sl (Own.sl hI.out.1)
      rw [List.take_length] at hcv
      go_wp2
      go_ret
      exact ⟨rfl, hI.out.2⟩
end Go.Proofs.YtbdmpdjhgjidlaaGreatDoor
