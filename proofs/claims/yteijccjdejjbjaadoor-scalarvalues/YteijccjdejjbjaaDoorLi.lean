import Derived.Test.YteijccjdejjbjaaDoorRs
import Derived.Test.YteijccjdejjbjaaDoorAl
namespace Go.Proofs.YteijccjdejjbjaaDoor
open Go.RowKit Go.Shelf ScalarNum

theorem yl_succ (n x : Nat) : yl n x ++ [.int .u8 ((dg 256 x n : Nat) : Int)] = yl (n + 1) x := by
  simp [yl, ds, List.range_succ]
theorem hI8 : ∃ i, Tryd.prog.info? 5 = some i ∧ i.zero = some (.int .u8 0) ∧ i.size = 1 ∧ i.bytes = 1 := by
  obtain ⟨i, hi⟩ : ∃ i, Tryd.prog.info? 5 = some i := Option.isSome_iff_exists.1 (by kernel_rfl)
  have h1 : (Tryd.prog.info? 5).map (fun i => (i.zero, i.size, i.bytes)) = some (some (.int .u8 0), 1, 1) := by kernel_rfl
  rw [hi] at h1
  simp at h1
  exact ⟨i, hi, h1.1, h1.2.1, h1.2.2⟩

/-- a slice that holds the bytes of a number -/
def SL (n x : Nat) (v : Value) (w : World) : Prop := ∃ g cap, v = .slice (some ⟨g, 0, none⟩) n cap ∧ w.rangeAt g 0 (yl n x)
theorem SL.grown {n x : Nat} {v : Value} {w w' : World} (h : SL n x v w) (hg : Grown w w') : SL n x v w' := by
  obtain ⟨g, cap, rfl, hr⟩ := h
  exact ⟨g, cap, rfl, rangeAt_grown hr hg⟩

set_option maxRecDepth 100000 in
set_option maxHeartbeats 1000000 in
theorem list_num (x : Nat) (w : World) : Calls Tryd.prog 52 #[yv 32 x] w fun e w' => (∃ v, e = .returned v ∧ SL 32 x v w') ∧ Grown w w' := by
  obtain ⟨ii, hi1, hi2, hi3, hi4⟩ := hI8
  have h0 := rangeAt_alloc_new w 23 (yl 32 x)
  have g0 : Grown w (w.alloc (.cells (yl 32 x).toArray 23)) := Grown.alloc (Grown.refl _) _ _
  rw [yv]
  go_enter Tryd.func52, Tryd.ntmps52
  go_wp2
  generalize (w.alloc (.cells (yl 32 x).toArray 23)) = W1 at *
  have H0 := Hid.of h0
  have G0 := Hid.of g0
  clear h0 g0
  go_loopw [3, 4] (fun v3 v4 wr => ∃ i : Nat, v4 = .int .i64 (i : Int) ∧ i ≤ 32 ∧ wr.ownsRow W1.heap.size 5 1 v3 i (yl i x) ∧ (i = 0 ∨ ∃ g cap, v3 = .slice (some ⟨g, 0, none⟩) i cap) ∧ Grown W1 wr) (fun _ v4 _ => 32 - (intOf v4).toNat)
  case atStart => exact ⟨0, rfl, by decide, World.ownsRow_nil _ _ _ _, .inl rfl, Grown.refl _⟩
  case round =>
    obtain ⟨i, rfl, hi, hown, hsl, hg⟩ := hrel
    by_cases hlt : i < 32
    · have d1 : wr.cell? ⟨w.heap.size, i, none⟩ = some (.int .u8 (dg 256 x i : Nat)) := by
        have := rangeAt_grown H0.out hg i _ (yl_get 32 x i hlt); rwa [Nat.zero_add] at this
      have b1 : (i : Int) < 32 := Int.ofNat_lt.2 hlt
      have HO := Hid.of hown
      have HG := Hid.of hg
      have HY := Hid.of (yl_succ i x)
      clear hown hg hsl
      generalize dg 256 x i = d at *
      go_wp2_with (with_reducible show wpList _ _ _ ({ dst := _, op := Op.call { callee := Callee.builtin Builtin.append, args := _, argTypes := _ }, type := _, pos := _, after := _, guard := _ } :: _) _ _; refine Shut.out ?_)
      show wpList _ _ _ _ _ _
      refine wpList_append_one (W0 := W1) rfl _ _ rfl Tryd.underlying64 hi1 hi2 hi3 hi4 rfl _ i (yl i x) rfl (HO.out.alloc _) ⟨wr.heap.size, 0, none⟩ 1 (.int .u8 (d : Int)) rfl (by simp [Addr.add]) rfl (by omega) (Grown.alloc HG.out _ _) ?_
      intro v' w' ho' hgr hv' hg'
      rw [HY.out] at ho'
      simp only [Act.put, List.setIfInBounds_toArray, List.set_cons_zero, List.set_cons_succ]
      have HO' := Hid.of ho'
      have HG' := Hid.of hg'
      have HV' := Hid.of hv'
      clear ho' hg' hv' hgr HO HG HY d1
      go_wp2
      go_roundw
      case rel => exact ⟨i + 1, by go_num, by omega, HO'.out, .inr HV'.out, HG'.out⟩
      case measure => simp [intOf]; omega
    · have hi32 : i = 32 := by omega
      subst hi32
      obtain ⟨g, cap, rfl⟩ := hsl.resolve_left (by decide)
      have HR := Hid.of (And.intro (owns_range hown) (grown_trans G0.out hg))
      clear hown hg hi hlt hsl
      go_wp2
      go_ret
      exact ⟨⟨_, rfl, g, cap, rfl, HR.out.1⟩, HR.out.2⟩
end Go.Proofs.YteijccjdejjbjaaDoor
