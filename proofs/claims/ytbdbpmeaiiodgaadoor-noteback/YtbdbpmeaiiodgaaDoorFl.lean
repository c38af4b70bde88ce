import Derived.Test.YtbdbpmeaiiodgaaDoorFb
import Derived.Deep.MidRow
import Derived.Deep.RegionHeld3
namespace Go.Proofs.YtbdbpmeaiiodgaaDoor
open Go.RowKit TextNum
/-- bytes made to a text, in a region that draws and only reads -/
theorem quiet_conv {C : World → Prop} {a : Act} {o : Oper} {K : Act → Prop} (x : Operand) (h : o.op = .convert 22 9 x) (v : Value) (b : ByteArray) (hx : a.eval x = v) (hs : ∀ w, C w → (convert 22 9 v).run Tryd.prog w = .ok (.string b) w) (hk : K (a.put o.dst (.string b))) : o.quiet Tryd.prog a C K :=
  ⟨_, fun w hw => by
    have e : (execOp a.eval o).run Tryd.prog w = .ok (.value (.string b)) w := by
      unfold execOp
      simp only [h, Sem.run_bind, Sem.run_pure, Result.andThen_ok, hx, hs w hw]
    unfold Oper.quietAt
    rw [e]
    exact ⟨rfl, rfl⟩, hk⟩
set_option maxRecDepth 100000 in
set_option maxHeartbeats 2000000 in
/-- signatures that are the same are found alike -/
theorem alike_walk (v1 v2 : Value) (ss : List Sg) (w : World) (h1 : SigL w v1 ss) (h2 : SigL w v2 ss) (h16 : ss.length ≤ 16) :
    Calls Tryd.prog 26 #[v1, v2] w fun e w' => e = .returned (.bool true) ∧ Up w w' := by
  obtain ⟨a1, c1, rfl, hc1, hg1⟩ := h1.get
  obtain ⟨a2, c2, rfl, hc2, hg2⟩ := h2.get
  have HG := Hid.of (And.intro hg1 hg2)
  clear h1 h2 hg1 hg2
  obtain ⟨n, hn⟩ : ∃ n, ss.length = n := ⟨_, rfl⟩
  rw [hn] at hc1 hc2 h16 ⊢
  go_enter Tryd.func26, Tryd.ntmps26
  go_wp2
  go_loopw [5] (fun v5 wr => ∃ i : Nat, v5 = .int .i64 (i : Int) ∧ i ≤ n ∧ Hid (Up w wr)) (fun v5 _ => n - (intOf v5).toNat)
  case atStart => exact ⟨0, rfl, by omega, Up.refl _⟩
  case round =>
    obtain ⟨i, rfl, hi, hI⟩ := hrel
    by_cases hlt : i < n
    · have hlt' : (i : Int) < (n : Int) := by omega
      have hltS : i < ss.length := by omega
      obtain ⟨b1, o1, rfl, p1, m1, d1, k1, k2, k3, rfl, k5⟩ := HG.out.1 i hltS
      obtain ⟨b2, o2, rfl, p2, m2, d2, j1, j2, j3, rfl, j5⟩ := HG.out.2 i hltS
      have k1' := hI.out.cell k1
      have k2' := hI.out.cell k2
      have k3' := hI.out.cell k3
      have j1' := hI.out.cell j1
      have j2' := hI.out.cell j2
      have j3' := hI.out.cell j3
      have hv1 : ∀ k, (convert 22 9 (.slice p1 ss[i].bytes.length d1)).run Tryd.prog (wr.drewN k) = .ok (vs ss[i].bytes) (wr.drewN k) := fun k => conv_sl (k5.up (hI.out.drewN k))
      have hv2 : ∀ k, (convert 22 9 (.slice p2 ss[i].bytes.length d2)).run Tryd.prog (wr.drewN k) = .ok (vs ss[i].bytes) (wr.drewN k) := fun k => conv_sl (j5.up (hI.out.drewN k))
      clear k1 k2 k3 k5 j1 j2 j3 j5
      generalize ss[i] = s at *
      rw [show vs s.bytes = .string ⟨s.bytes.toArray⟩ from rfl] at hv1 hv2
      generalize (⟨s.bytes.toArray⟩ : ByteArray) = bs at *
      have HV := Hid.of (And.intro hv1 hv2)
      clear hv1 hv2
      generalize s.bytes.length = m at *
      generalize s.name = nm at *
      generalize (s.hash : Int) = hs at *
      go_wp2_with fail
      refine wp_region_quiet_lit (by kernel_rfl) (by kernel_rfl) ?_
      repeat (go_big_quiet_step (fail))
      refine BigFrame.wpQuiet_want (by kernel_rfl) (fun K hK => ?_)
      refine quiet_conv _ rfl _ bs rfl (fun w2 hw => ?_) ?_
      · obtain ⟨k, rfl⟩ := hw
        exact HV.out.1 _
      refine hK _ ?_
      clear hK K
      simp only [Act.put, List.setIfInBounds_toArray, List.set_cons_zero, List.set_cons_succ]
      repeat (go_big_quiet_step (fail))
      refine BigFrame.wpQuiet_want (by kernel_rfl) (fun K hK => ?_)
      refine quiet_conv _ rfl _ bs rfl (fun w2 hw => ?_) ?_
      · obtain ⟨k, rfl⟩ := hw
        exact HV.out.2 _
      refine hK _ ?_
      clear hK K
      simp only [Act.put, List.setIfInBounds_toArray, List.set_cons_zero, List.set_cons_succ]
      repeat (go_big_quiet_step (fail))
      refine wpQuiet_nil ?_
      intro w2 hw
      obtain ⟨k, rfl⟩ := hw
      go_wp2
      go_roundw
      case rel => exact ⟨i + 1, by go_num, by omega, hI.out.drewN _⟩
      case measure => simp [intOf]; omega
    · have hlt' : ¬ (i : Int) < (n : Int) := by omega
      go_wp2
      go_ret
      exact ⟨rfl, hI.out⟩
end Go.Proofs.YtbdbpmeaiiodgaaDoor
