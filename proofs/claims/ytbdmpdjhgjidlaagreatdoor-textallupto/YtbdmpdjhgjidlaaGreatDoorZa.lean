import Derived.Test.YtbdmpdjhgjidlaaGreatDoorHe
namespace TextNum
abbrev hexT : ByteArray := ⟨#[48, 49, 50, 51, 52, 53, 54, 55, 56, 57, 97, 98, 99, 100, 101, 102]⟩
theorem hexT_fin : ∀ i : Fin 16, hexT[i.val]'(show i.val < 16 from i.isLt) = dg i.val := by decide +kernel
theorem hexT_at (i : Nat) (h : i < hexT.size) : hexT[i]'h = dg i := hexT_fin ⟨i, h⟩
end TextNum
namespace Go.Proofs.YtbdmpdjhgjidlaaGreatDoor
open Go.RowKit TextNum

set_option maxRecDepth 100000 in
set_option maxHeartbeats 1000000 in
theorem REncodeHex_walk (v : Value) (l : List UInt8) (w : World) (hS : Sl w v l) (hl : l.length ≤ 1099511627776) :
    Calls Tryz.prog 12 #[v] w fun e w' => e = .returned (vs (hexE l)) ∧ Up w w' := by
  obtain ⟨a, c, rfl, _, hS⟩ := hS
  have HT := Hid.of hS
  clear hS
  go_enter Tryz.func12, Tryz.ntmps12
  go_wp2
  go_loopw [3, 4] (fun v3 v4 wr => ∃ i : Nat, v4 = .int .i64 (i : Int) ∧ i ≤ l.length ∧ Hid (Own wr w.heap.size v3 (hexE (l.take i)) ∧ Up w wr)) (fun _ v4 _ => l.length - (intOf v4).toNat)
  case atStart => exact ⟨0, rfl, by omega, World.ownsRow_nil _ _ _ _, Up.refl _⟩
  case round =>
    obtain ⟨i, rfl, hi, hI⟩ := hrel
    obtain ⟨wb, hwb⟩ : ∃ wb, wb = wr := ⟨_, rfl⟩
    subst hwb
    by_cases hlt : i < l.length
    · rcases HT.out with e | ⟨b, off, rfl, hb, hc⟩
      · subst e; simp at hlt
      · have hcx := hI.out.2.cell (hc i hlt)
        have HC := Hid.of (hc i hlt)
        have hlt' : (i : Int) < (l.length : Int) := by omega
        have HX := Hid.of (hexE_snoc (l.take i) l[i])
        rw [← take_succ hlt] at HX
        have hlen : (hexE (l.take i)).length + 2 ≤ 140737488355328 := by rw [hexE_length]; simp; omega
        have HL := Hid.of hlen
        clear hlen hc
        generalize l[i] = x at *
        have hx : x.toNat < 256 := x.toNat_lt
        have d1 : x.toNat / 16 < 16 := by omega
        have d2 : x.toNat % 16 < 16 := by omega
        go_wp2_with (with_reducible show wpList _ _ _ ({ dst := _, op := Op.call { callee := Callee.builtin Builtin.append, args := _, argTypes := _ }, type := _, pos := _, after := _, guard := _ } :: _) _ _; refine Shut.out ?_)
        show wpList _ _ _ _ _ _
        simp only [hexT_at]
        refine wpList_app1 rfl _ _ rfl w.heap.size _ (hexE (l.take i)) [dg (x.toNat / 16)] rfl (by exact hI.out.1) 1 rfl (by have := HL.out; simp; omega) hI.out.2.size ?_
        intro v1 w1 h1 b1
        have H1 := Hid.of (And.intro h1 (hI.out.2.step (Nat.le_refl _) b1))
        clear h1 b1
        simp only [Act.put, List.setIfInBounds_toArray, List.set_cons_zero, List.set_cons_succ]
        have hcx := H1.out.2.cell HC.out
        go_wp2_with (with_reducible show wpList _ _ _ ({ dst := _, op := Op.call { callee := Callee.builtin Builtin.append, args := _, argTypes := _ }, type := _, pos := _, after := _, guard := _ } :: _) _ _; refine Shut.out ?_)
        show wpList _ _ _ _ _ _
        simp only [hexT_at]
        refine wpList_app1 rfl _ _ rfl w.heap.size _ (hexE (l.take i) ++ [dg (x.toNat / 16)]) [dg (x.toNat % 16)] rfl (by exact H1.out.1) 1 rfl (by have := HL.out; simp; omega) H1.out.2.size ?_
        intro v2 w2 h2 b2
        have H2 := Hid.of (And.intro h2 (H1.out.2.step (Nat.le_refl _) b2))
        clear h2 b2
        simp only [Act.put, List.setIfInBounds_toArray, List.set_cons_zero, List.set_cons_succ]
        go_wp2
        go_roundw
        case rel => exact ⟨i + 1, by go_num, by omega, by rw [HX.out]; simpa using H2.out.1, H2.out.2⟩
        case measure => simp [intOf]; omega
    · obtain rfl : i = l.length := by omega
      have hcv := conv_sl (Own.sl hI.out.1)
      rw [List.take_length] at hcv
      go_wp2
      go_ret
      exact ⟨rfl, hI.out.2⟩
end Go.Proofs.YtbdmpdjhgjidlaaGreatDoor
