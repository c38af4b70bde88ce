import Derived.Test.YteijccjdejjbjaaDoorHp
namespace Go.Proofs.YteijccjdejjbjaaDoor
open Go.RowKit Go.Shelf ScalarNum

set_option maxRecDepth 100000 in
set_option maxHeartbeats 600000 in
theorem heap_nil (a : Option Addr) (cap : Nat) (f : Nat → I8) (sg : Int) (hsg : sg = 1 ∨ sg = -1) (w : World) :
    Calls Tryd.prog 47 #[.slice a 0 cap, .int .i64 sg] w fun e w' => (∃ v, e = .returned v ∧ SL 40 (dsum (pp f sg) 0) v w') ∧ Grown w w' := by
  have hp : ∀ i, pp f sg i ≤ 128 := pp_le hsg
  have h0 : (w.alloc (.cells (sl (SS (pp f sg) 0)).toArray 91)).rangeAt w.heap.size 0 (sl (SS (pp f sg) 0)) ∧ (w.alloc (.cells (sl (SS (pp f sg) 0)).toArray 91)).there w.heap.size 0 40 ∧ Grown w (w.alloc (.cells (sl (SS (pp f sg) 0)).toArray 91)) :=
    ⟨rangeAt_alloc_new w 91 _, there_alloc_new w 91 _ 40 (by rw [List.size_toArray, sl_length]; exact Nat.le_refl _), Grown.alloc (Grown.refl _) _ _⟩
  have HP := Hid.of (And.intro hp hsg)
  clear hp hsg
  go_enter Tryd.func47, Tryd.ntmps47
  go_wp2
  go_loopw [6] (fun v6 wr => ∃ i : Nat, v6 = .int .i64 (i : Int) ∧ i ≤ 0 ∧ HX (w.alloc (.cells (sl (SS (pp f sg) 0)).toArray 91)) w.heap.size (pp f sg) i wr) (fun _ _ => 0)
  case atStart =>
    refine ⟨0, rfl, Nat.zero_le _, ?_⟩
    have e : ∀ W, W = (w.alloc (.cells (sl (SS (pp f sg) 0)).toArray 91)) → HX (w.alloc (.cells (sl (SS (pp f sg) 0)).toArray 91)) w.heap.size (pp f sg) 0 W := fun W e => by rw [e]; exact ⟨h0.1, h0.2.1, GB.refl _ _⟩
    exact e _ rfl
  case round =>
    obtain ⟨i, rfl, hi, hX⟩ := hrel
    generalize (w.alloc (.cells (sl (SS (pp f sg) 0)).toArray 91)) = W0 at *
    have HXX := Hid.of (And.intro hX h0)
    clear hX h0
    · obtain rfl : i = 0 := by omega
      have gwr : Grown w wr := GB.own HXX.out.2.2.2 (Nat.le_refl _) HXX.out.1.gb
      have HR := Hid.of (And.intro HXX.out.1.rg gwr)
      have HS := Hid.of (show ∀ k, SS (pp f sg) 0 k ≤ 4915200 from fun k => Nat.le_trans (SS_le HP.out.1 0 k) (by omega))
      have HTt := Hid.of (And.intro (tot_SS (pp f sg) 0 (by omega)) (dsum_256 (i := 0) HP.out.1 (by decide)))
      generalize SS (pp f sg) 0 = S at *
      obtain ⟨ii, hi1, hi2, hi3, hi4⟩ := hI8
      clear HXX gwr hi HP
      obtain ⟨wr2, eW⟩ : ∃ W1, W1 = wr := ⟨_, rfl⟩
      subst eW
      go_wp2
      go_loopw [10, 11, 12] (fun v10 v11 v12 wr' => ∃ k D c : Nat, v12 = .int .i64 (k : Int) ∧ v11 = .int .i64 (c : Int) ∧ k ≤ 40 ∧ c ≤ 4915200 ∧ D + c * 256 ^ k = tot S k ∧ OX wr2 v10 k D wr') (fun _ _ v12 _ => 40 - (intOf v12).toNat)
      case atStart => exact ⟨0, 0, 0, rfl, rfl, by decide, by decide, by simp [tot], World.ownsRow_nil _ _ _ _, .inl rfl, by decide, Grown.refl _⟩
      case round =>
        obtain ⟨k, D, c, rfl, rfl, hk, hc, he, hO⟩ := hrel
        have HO := Hid.of hO
        clear hO
        by_cases hlt : k < 40
        · have b1 : (k : Int) < 40 := Int.ofNat_lt.2 hlt
          have d1 : wr.cell? ⟨w.heap.size, k, none⟩ = some (.int .i64 (S k : Nat)) := by
            have := rangeAt_grown HR.out.1 HO.out.gw k _ (sl_get S k hlt); rwa [Nat.zero_add] at this
          have hSk := HS.out k
          have hst := Hid.of (carry_lay HO.out.lt he)
          generalize S k = x at *
          have es : (x : Int) + (c : Int) = ((x + c : Nat) : Int) := by omega
          have hs2 : x + c < 10000000 := by omega
          have hs3 : (x + c) / 256 ≤ 4915200 := by omega
          generalize x + c = s at *
          have q1 := tmods s
          have q2 := tdivs s
          have q3 := u8_of s
          have HL := Hid.of hs3
          clear he hs3 hSk
          go_wp2_with (with_reducible show wpList _ _ _ ({ dst := _, op := Op.call { callee := Callee.builtin Builtin.append, args := _, argTypes := _ }, type := _, pos := _, after := _, guard := _ } :: _) _ _; refine Shut.out ?_)
          show wpList _ _ _ _ _ _
          rw [show ((s : Int) % 256) = ((s % 256 : Nat) : Int) from by simp]
          refine wpList_append_one (W0 := wr2) rfl _ _ rfl Tryd.underlying64 hi1 hi2 hi3 hi4 rfl _ k (yl k D) rfl (HO.out.own.alloc _) ⟨wr.heap.size, 0, none⟩ 1 (.int .u8 ((s % 256 : Nat) : Int)) rfl (by simp [Addr.add]) rfl (Nat.lt_trans hlt (by decide)) (Grown.alloc HO.out.gw _ _) ?_
          intro v' w' ho' hgr hv' hg'
          rw [yl_lay HO.out.lt (Nat.mod_lt _ (by decide))] at ho'
          have HO' := Hid.of (show OX wr2 v' (k + 1) (D + s % 256 * 256 ^ k) w' from ⟨ho', .inr hv', hst.out.1, hg'⟩)
          clear ho' hgr hv' hg' HO d1
          simp only [Act.put, List.setIfInBounds_toArray, List.set_cons_zero, List.set_cons_succ]
          go_wp2
          go_roundw
          case rel => exact ⟨k + 1, D + s % 256 * 256 ^ k, s / 256, by go_num, by simp, hlt, HL.out, hst.out.2, HO'.out⟩
          case measure => simp [intOf]; omega
        · obtain rfl : k = 40 := by omega
          have hc0 : c = 0 := by
            have h1 := HTt.out.2
            rw [← HTt.out.1, ← he] at h1
            exact carry_none h1
          subst hc0
          rw [Nat.zero_mul, Nat.add_zero, HTt.out.1] at he
          subst he
          obtain ⟨g, cp, rfl⟩ := HO.out.sl.resolve_left (by decide)
          have HF := Hid.of (And.intro (owns_range HO.out.own) (grown_trans HR.out.2 HO.out.gw))
          clear HO HR HTt HS
          go_wp2
          go_loopw [10, 11] (fun v10 v11 wr' => v10 = .slice (some ⟨g, 0, none⟩) 40 cp ∧ v11 = .int .i64 0 ∧ wr' = wr) (fun _ _ _ => 0)
          case atStart => exact ⟨rfl, rfl, rfl⟩
          case round =>
            obtain ⟨rfl, rfl, rfl⟩ := hrel
            go_wp2
            go_ret
            exact ⟨⟨_, rfl, g, cp, rfl, HF.out.1⟩, HF.out.2⟩
end Go.Proofs.YteijccjdejjbjaaDoor
