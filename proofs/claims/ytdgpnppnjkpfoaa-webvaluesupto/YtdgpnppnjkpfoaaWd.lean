import Derived.Test.YtdgpnppnjkpfoaaWc
namespace Go.Proofs.Ytdgpnppnjkpfoaa
open Go.RowKit TextNum
/-- the law's fields -/
def mkF (ns vs : List ByteArray) : List FD := ns.zipIdx.map fun p => ⟨p.1, vat vs p.2⟩
theorem mkF_len (ns vs : List ByteArray) : (mkF ns vs).length = ns.length := by simp [mkF]
theorem mkF_get {ns vs : List ByteArray} {i : Nat} (h : i < ns.length) (h' : i < (mkF ns vs).length) : (mkF ns vs)[i] = ⟨ns[i], vat vs i⟩ := by
  simp [mkF]
set_option maxRecDepth 100000 in
set_option maxHeartbeats 4000000 in
theorem values_walk (a0 : Option Addr) (ns : List ByteArray) (c0 : Nat) (a1 : Option Addr) (vs : List ByteArray) (c1 : Nat) (nm : ByteArray) (w : World) (h0 : StL w a0 ns c0) (h1 : StL w a1 vs c1) (hl : ns.length ≤ 1048576) (hs : ∀ s ∈ ns, s.size ≤ 1048576) (hn : nm.size ≤ 1048576) :
    Calls Try.prog 3 #[.slice a0 ns.length c0, .slice a1 vs.length c1, .string nm] w fun e w' => e = .returned (.bool true) ∧ Up w w' := by
  have HN := Hid.of h0
  have HV := Hid.of h1
  have HS := Hid.of hs
  have hcap := h0.cap
  clear h0 h1 hs
  obtain ⟨F, hF⟩ : ∃ F, mkF ns vs = F := ⟨_, rfl⟩
  have HFl := Hid.of (show F.length = ns.length by rw [← hF, mkF_len])
  have HFg := Hid.of (show ∀ i (h : i < ns.length) (h' : i < F.length), F[i] = ⟨ns[i], vat vs i⟩ by subst hF; exact fun i h h' => mkF_get h h')
  have HFs := Hid.of (show ∀ f ∈ F, f.n.size ≤ 1048576 by
    intro f hf
    obtain ⟨i, hi, rfl⟩ := List.getElem_of_mem hf
    have hin : i < ns.length := by rw [← HFl.out]; exact hi
    rw [HFg.out i hin hi]
    exact HS.out _ (List.getElem_mem hin))
  clear hF
  go_enter Try.func3, Try.ntmps3
  go_wp2
  go_loopw [7, 8] (fun v7 v8 wr => ∃ i : Nat, v8 = .int .i64 (i : Int) ∧ i ≤ ns.length ∧ ∃ a7 c7, v7 = .slice a7 i c7 ∧ Hid (FdO wr w.heap.size a7 (F.take i) c7 ∧ Up w wr)) (fun _ v8 _ => ns.length - (intOf v8).toNat)
  case atStart => exact ⟨0, rfl, Nat.zero_le _, none, 0, rfl, Hid.of ⟨World.ownsRow_nil _ _ _ _, Up.refl _⟩⟩
  case round =>
    obtain ⟨i, rfl, hi, a7, c7, rfl, hQ⟩ := hrel
    have HQ := Hid.of hQ.out
    clear hQ
    by_cases hil : i < ns.length
    · have hilz : (i : Int) < (ns.length : Int) := by omega
      have hif : i < F.length := by rw [HFl.out]; exact hil
      obtain ⟨b, off, rfl, k1⟩ := HN.out.cells i hil
      have HT := Hid.of (List.take_succ_eq_append_getElem hif)
      have HLn := Hid.of (show (F.take i).length = i by rw [List.length_take]; omega)
      have hfg := HFg.out i hil hif
      obtain ⟨f, hf⟩ : ∃ f, F[i] = f := ⟨_, rfl⟩
      rw [hf] at HT hfg
      have HFv := Hid.of (show vat vs i = f.v by rw [hfg])
      have HK1 := Hid.of (show w.cell? ⟨b, off + i, none⟩ = some (.string f.n) by rw [k1, hfg])
      clear hf hfg k1
      go_wp2
      refine wp_region_held_drew (S := fun w2 => Up w w2) (by kernel_rfl) HQ.out.2.drew (fun hS => ?_)
      refine wpAnyH_take (i := 0) (oi := { dst := some 20, op := Go.Op.move (Go.Operand.tmp 7), type := 23, pos := "outright.go:243", after := #[], guard := none }) (v := .slice a7 i c7) rfl (by kernel_rfl) (by kernel_rfl) (by kernel_rfl) (fun _ _ _ h => h) (Or.inl ⟨by kernel_rfl, ?_⟩) hS ?_
      · intro w5 hSw
        clear hSw hS
        go_simp
      simp only [Act.put, List.setIfInBounds_toArray, List.set_cons_zero, List.set_cons_succ]
      refine wpAnyH_take (i := 1) (oi := { dst := some 21, op := Go.Op.move (Go.Operand.tmp 0), type := 22, pos := "outright.go:243", after := #[], guard := none }) (v := .slice (some ⟨b, off, none⟩) ns.length c0) rfl (by kernel_rfl) (by kernel_rfl) (by kernel_rfl) (fun _ _ _ h => h) (Or.inl ⟨by kernel_rfl, ?_⟩) hS ?_
      · intro w5 hSw
        clear hSw hS
        go_simp
      simp only [Act.put, List.setIfInBounds_toArray, List.set_cons_zero, List.set_cons_succ]
      refine wpAnyH_take (i := 2) (oi := { dst := some 22, op := Go.Op.move (Go.Operand.tmp 8), type := 3, pos := "outright.go:243", after := #[], guard := none }) (v := .int .i64 (i : Int)) rfl (by kernel_rfl) (by kernel_rfl) (by kernel_rfl) (fun _ _ _ h => h) (Or.inl ⟨by kernel_rfl, ?_⟩) hS ?_
      · intro w5 hSw
        clear hSw hS
        go_simp
      simp only [Act.put, List.setIfInBounds_toArray, List.set_cons_zero, List.set_cons_succ]
      refine wpAnyH_take (i := 3) (oi := { dst := some 23, op := Go.Op.indexAddr 22 (Go.Operand.tmp 21) (Go.Operand.tmp 22), type := 0, pos := "outright.go:243", after := #[{ on := 1, ground := Go.Ground.data }, { on := 2, ground := Go.Ground.data }], guard := none }) (v := .pointer (some ⟨b, off + i, none⟩)) rfl (by kernel_rfl) (by kernel_rfl) (by kernel_rfl) (fun _ _ _ h => h) (Or.inl ⟨by kernel_rfl, ?_⟩) hS ?_
      · intro w5 hSw
        clear hSw hS
        go_simp
      simp only [Act.put, List.setIfInBounds_toArray, List.set_cons_zero, List.set_cons_succ]
      refine wpAnyH_take (i := 4) (oi := { dst := some 24, op := Go.Op.load 9 (Go.Operand.tmp 23), type := 9, pos := "outright.go:243", after := #[{ on := 3, ground := Go.Ground.data }], guard := none }) (v := .string f.n) rfl (by kernel_rfl) (by kernel_rfl) (by kernel_rfl) (fun _ _ _ h => h) (Or.inl ⟨by kernel_rfl, ?_⟩) hS ?_
      · intro w5 hSw
        have h0 := hSw.cell HK1.out
        clear hSw hS
        go_simp
      simp only [Act.put, List.setIfInBounds_toArray, List.set_cons_zero, List.set_cons_succ]
      refine wpAnyH_take (i := 5) (oi := { dst := some 25, op := Go.Op.move (Go.Operand.tmp 1), type := 22, pos := "outright.go:243", after := #[], guard := none }) (v := .slice a1 vs.length c1) rfl (by kernel_rfl) (by kernel_rfl) (by kernel_rfl) (fun _ _ _ h => h) (Or.inl ⟨by kernel_rfl, ?_⟩) hS ?_
      · intro w5 hSw
        clear hSw hS
        go_simp
      simp only [Act.put, List.setIfInBounds_toArray, List.set_cons_zero, List.set_cons_succ]
      refine wpAnyH_take (i := 6) (oi := { dst := some 26, op := Go.Op.move (Go.Operand.tmp 8), type := 3, pos := "outright.go:243", after := #[], guard := none }) (v := .int .i64 (i : Int)) rfl (by kernel_rfl) (by kernel_rfl) (by kernel_rfl) (fun _ _ _ h => h) (Or.inl ⟨by kernel_rfl, ?_⟩) hS ?_
      · intro w5 hSw
        clear hSw hS
        go_simp
      simp only [Act.put, List.setIfInBounds_toArray, List.set_cons_zero, List.set_cons_succ]
      refine wpAnyH_ready (rs := [7]) (by kernel_rfl) (by simp) ?_
      refine AllReadyH.cons (o := { dst := some 27, op := Go.Op.call { callee := Go.Callee.value (Go.Operand.func 4), args := #[Go.Operand.tmp 25, Go.Operand.tmp 26], argTypes := #[22, 3] }, type := 9, pos := "outright.go:243", after := #[{ on := 5, ground := Go.Ground.data }, { on := 6, ground := Go.Ground.data }], guard := none }) rfl (fun K hK => ?_) AllReadyH.nil
      rw [if_pos (by kernel_rfl)]
      go_simp
      refine (value_walk a1 vs c1 i wr.drew ((HV.out.up HQ.out.2).up (Up.refl _).drew)).mono ?_
      rintro e w5 ⟨rfl, h9⟩
      obtain rfl := h9.symm
      clear h9
      rw [HFv.out]
      dsimp only
      refine hK.out _ _ hS (fun hS => ?_)
      clear hK K
      refine wpAnyH_take (i := 8) (oi := { dst := some 28, op := Go.Op.build 26 #[(0, Go.Operand.tmp 24), (1, Go.Operand.tmp 27)], type := 26, pos := "outright.go:243", after := #[{ on := 4, ground := Go.Ground.data }, { on := 7, ground := Go.Ground.data }], guard := none }) (v := .agg #[.string f.n, .string f.v]) rfl (by kernel_rfl) (by kernel_rfl) (by kernel_rfl) (fun _ _ _ h => h) (Or.inl ⟨by kernel_rfl, ?_⟩) hS ?_
      · intro w5 hSw
        clear hSw hS
        go_simp
      simp only [Act.put, List.setIfInBounds_toArray, List.set_cons_zero, List.set_cons_succ]
      refine wpAnyH_ready (rs := [9]) (by kernel_rfl) (by simp) ?_
      refine AllReadyH.cons (o := { dst := some 29, op := Go.Op.buildSlice 23 1 #[(0, Go.Operand.tmp 28)], type := 23, pos := "outright.go:243", after := #[{ on := 8, ground := Go.Ground.data }], guard := none }) rfl (fun K hK => ?_) AllReadyH.nil
      rw [if_pos (by kernel_rfl)]
      go_simp
      refine hK.out _ _ (hS.alloc _) (fun hS => ?_)
      clear hK K
      refine wpAnyH_ready (rs := [10]) (by kernel_rfl) (by simp) ?_
      refine AllReadyH.cons (o := { dst := some 30, op := Go.Op.call { callee := Go.Callee.builtin Go.Builtin.append, args := #[Go.Operand.tmp 20, Go.Operand.tmp 29], argTypes := #[23, 23] }, type := 23, pos := "outright.go:243", after := #[{ on := 0, ground := Go.Ground.data }, { on := 9, ground := Go.Ground.data }, { on := 7, ground := Go.Ground.chain }], guard := none }) rfl (fun K hK => oper_of_list ?_) AllReadyH.nil
      refine wpList_appFd (w := wr.drew) (N := w.heap.size) rfl _ _ rfl a7 c7 (F.take i) f HLn.out rfl rfl (ow_up HQ.out.1 (Up.refl _).drew) HQ.out.2.drew.size (by omega) ?_
      intro ax2 cx2 w7 o7 u7 g7
      have HO7 := Hid.of (show FdO w7 w.heap.size ax2 (F.take (i + 1)) cx2 by rw [HT.out]; exact o7)
      have HU7 := Hid.of (u7 w HQ.out.2.drew (Nat.le_refl _))
      clear o7 u7 g7
      refine hK.out _ _ HU7.out (fun hS => ?_)
      clear hK K
      simp only [Act.put, List.setIfInBounds_toArray, List.set_cons_zero, List.set_cons_succ]
      refine wpAnyH_take (i := 11) (oi := { dst := some 7, op := Go.Op.assign (Go.Operand.tmp 30), type := 23, pos := "outright.go:243", after := #[{ on := 10, ground := Go.Ground.data }, { on := 10, ground := Go.Ground.chain }, { on := 0, ground := Go.Ground.phase }, { on := 1, ground := Go.Ground.phase }, { on := 2, ground := Go.Ground.phase }, { on := 3, ground := Go.Ground.phase }, { on := 4, ground := Go.Ground.phase }, { on := 5, ground := Go.Ground.phase }, { on := 6, ground := Go.Ground.phase }, { on := 7, ground := Go.Ground.phase }, { on := 8, ground := Go.Ground.phase }, { on := 9, ground := Go.Ground.phase }, { on := 10, ground := Go.Ground.phase }], guard := none }) (v := .slice ax2 (i + 1) cx2) rfl (by kernel_rfl) (by kernel_rfl) (by kernel_rfl) (fun _ _ _ h => h) (Or.inl ⟨by kernel_rfl, ?_⟩) hS ?_
      · intro w5 hSw
        clear hSw hS
        go_simp
      simp only [Act.put, List.setIfInBounds_toArray, List.set_cons_zero, List.set_cons_succ]
      clear hS
      refine wpAnyH_done (by kernel_rfl) ?_ _
      go_wp2
      go_roundw
      all_goals first
        | exact ⟨i + 1, by go_num, by omega, ax2, cx2, rfl, Hid.of ⟨HO7.out, HU7.out⟩⟩
        | (simp [intOf]; omega)
    · have hilz : ¬ (i : Int) < (ns.length : Int) := by omega
      have hin : i = ns.length := by omega
      subst hin
      have HQ2 := Hid.of (show FdO wr w.heap.size a7 F c7 by
        have h1 := HQ.out.1
        rw [List.take_of_length_le (by rw [HFl.out]; exact Nat.le_refl _)] at h1
        exact h1)
      have HL2 := Hid.of (HQ2.out.fdl)
      have hcap7 := HL2.out.cap
      have HVl := Hid.of (Value_walk a7 F c7 nm wr HL2.out (by rw [HFl.out]; omega) (fun f hf => by have := HFs.out f hf; omega))
      rw [HFl.out] at HVl hcap7
      have HUw := Hid.of HQ.out.2
      clear HQ
      go_wp2_with fail
      refine HVl.out.mono ?_
      rintro e w4 ⟨rfl, u4⟩
      have HU4 := Hid.of (HUw.out.trans u4)
      have HL4 := Hid.of (HL2.out.up u4)
      clear u4 HVl
      dsimp only
      cases hfn : fnd F nm with
      | some f =>
        have HFn := Hid.of (And.intro hfn trivial)
        rw [show vlR F nm = .tuple #[.string f.v, .bool true] by unfold vlR; rw [hfn]]
        clear hfn
        go_wp2
        go_loopw [11] (fun v11 wr => ∃ j : Nat, v11 = .int .i64 (j : Int) ∧ j ≤ ns.length ∧ Hid (Up w4 wr ∧ fnd (F.take j) nm = none)) (fun v11 _ => ns.length - (intOf v11).toNat)
        case atStart => exact ⟨0, rfl, Nat.zero_le _, Hid.of ⟨Up.refl _, rfl⟩⟩
        case round =>
          obtain ⟨j, rfl, hj, hU⟩ := hrel
          have HU := Hid.of hU.out
          clear hU
          by_cases hjl : j < ns.length
          · have hjz : (j : Int) < (ns.length : Int) := by omega
            have hjf : j < F.length := by rw [HFl.out]; exact hjl
            obtain ⟨b7, o7, rfl, q1, q2⟩ := HL4.out.cells j hjf
            have k1 := HU.out.1.cell q1
            have k2 := HU.out.1.cell q2
            have HTj := Hid.of (List.take_succ_eq_append_getElem hjf)
            have HDj := Hid.of (show F = F.take j ++ F[j] :: F.drop (j + 1) by rw [List.getElem_cons_drop, List.take_append_drop])
            have hgs := HFs.out _ (List.getElem_mem hjf)
            obtain ⟨g, hg⟩ : ∃ g, F[j] = g := ⟨_, rfl⟩
            rw [hg] at k1 k2 HTj HDj hgs
            clear hg q1 q2
            go_wp2_with (with_reducible show wpList _ _ _ ({ dst := _, op := Op.indexAddr 23 _ _, type := _, pos := _, after := _, guard := _ } :: _) _ _; refine Shut.out ?_)
            show wpList _ _ _ _ _ _
            refine wpList_val7 (.pointer (some ⟨b7, o7 + j * 2, none⟩)) rfl (exec_idxFd j hjl rfl rfl rfl) ?_
            simp only [Act.put, List.setIfInBounds_toArray, List.set_cons_zero, List.set_cons_succ]
            go_wp2_with fail
            refine (lowerL_walk g.n _ (by omega)).mono ?_
            rintro e w5 ⟨rfl, u5⟩
            have HU5 := Hid.of (HU.out.1.trans u5)
            have k3 := u5.cell k2
            clear u5 k1 k2
            dsimp only
            go_wp2_with fail
            refine (lowerL_walk nm _ (by omega)).mono ?_
            rintro e w6 ⟨rfl, u6⟩
            have HU6 := Hid.of (HU5.out.trans u6)
            have k4 := u6.cell k3
            clear u6 k3
            dsimp only
            cases hw : (lws g.n.data.toList == lws nm.data.toList) with
            | true =>
              have hfn2 : fnd F nm = some g := by
                rw [HDj.out]
                unfold fnd
                rw [List.find?_append]
                have h2 : (F.take j).find? (fun f => lws f.n.data.toList == lws nm.data.toList) = none := HU.out.2
                rw [h2, List.find?_cons]
                simp [hw]
              have hfg2 : g = f := Option.some.inj (hfn2.symm.trans HFn.out.1)
              subst hfg2
              clear hfn2
              go_wp2_with (with_reducible show wpList _ _ _ ({ dst := _, op := Op.indexAddr 23 _ _, type := _, pos := _, after := _, guard := _ } :: _) _ _; refine Shut.out ?_)
              show wpList _ _ _ _ _ _
              refine wpList_valG (.pointer (some ⟨b7, o7 + j * 2, none⟩)) (by kernel_rfl) (exec_idxFd j hjl rfl rfl rfl) ?_
              simp only [Act.put, List.setIfInBounds_toArray, List.set_cons_zero, List.set_cons_succ]
              go_wp2
              go_ret
              exact ⟨rfl, HU4.out.trans HU6.out⟩
            | false =>
              have HN2 := Hid.of (show fnd (F.take (j + 1)) nm = none by
                rw [HTj.out]
                unfold fnd
                rw [List.find?_append]
                have h2 : (F.take j).find? (fun f => lws f.n.data.toList == lws nm.data.toList) = none := HU.out.2
                rw [h2, List.find?_cons]
                simp [hw])
              go_wp2
              go_roundw
              all_goals first
                | exact ⟨j + 1, by go_num, by omega, Hid.of ⟨HU6.out, HN2.out⟩⟩
                | (simp [intOf]; omega)
          · have hjz : ¬ (j : Int) < (ns.length : Int) := by omega
            exfalso
            have h1 := HU.out.2
            rw [List.take_of_length_le (by rw [HFl.out]; omega), HFn.out.1] at h1
            cases h1
      | none =>
        have HFn := Hid.of (And.intro hfn trivial)
        rw [show vlR F nm = .tuple #[.string ⟨#[]⟩, .bool false] by unfold vlR; rw [hfn]]
        clear hfn
        go_wp2
        go_loopw [11] (fun v11 wr => ∃ j : Nat, v11 = .int .i64 (j : Int) ∧ j ≤ ns.length ∧ Hid (Up w4 wr ∧ fnd (F.take j) nm = none)) (fun v11 _ => ns.length - (intOf v11).toNat)
        case atStart => exact ⟨0, rfl, Nat.zero_le _, Hid.of ⟨Up.refl _, rfl⟩⟩
        case round =>
          obtain ⟨j, rfl, hj, hU⟩ := hrel
          have HU := Hid.of hU.out
          clear hU
          by_cases hjl : j < ns.length
          · have hjz : (j : Int) < (ns.length : Int) := by omega
            have hjf : j < F.length := by rw [HFl.out]; exact hjl
            obtain ⟨b7, o7, rfl, q1, q2⟩ := HL4.out.cells j hjf
            have k1 := HU.out.1.cell q1
            have k2 := HU.out.1.cell q2
            have HTj := Hid.of (List.take_succ_eq_append_getElem hjf)
            have HDj := Hid.of (show F = F.take j ++ F[j] :: F.drop (j + 1) by rw [List.getElem_cons_drop, List.take_append_drop])
            have hgs := HFs.out _ (List.getElem_mem hjf)
            obtain ⟨g, hg⟩ : ∃ g, F[j] = g := ⟨_, rfl⟩
            rw [hg] at k1 k2 HTj HDj hgs
            clear hg q1 q2
            go_wp2_with (with_reducible show wpList _ _ _ ({ dst := _, op := Op.indexAddr 23 _ _, type := _, pos := _, after := _, guard := _ } :: _) _ _; refine Shut.out ?_)
            show wpList _ _ _ _ _ _
            refine wpList_val7 (.pointer (some ⟨b7, o7 + j * 2, none⟩)) rfl (exec_idxFd j hjl rfl rfl rfl) ?_
            simp only [Act.put, List.setIfInBounds_toArray, List.set_cons_zero, List.set_cons_succ]
            go_wp2_with fail
            refine (lowerL_walk g.n _ (by omega)).mono ?_
            rintro e w5 ⟨rfl, u5⟩
            have HU5 := Hid.of (HU.out.1.trans u5)
            have k3 := u5.cell k2
            clear u5 k1 k2
            dsimp only
            go_wp2_with fail
            refine (lowerL_walk nm _ (by omega)).mono ?_
            rintro e w6 ⟨rfl, u6⟩
            have HU6 := Hid.of (HU5.out.trans u6)
            have k4 := u6.cell k3
            clear u6 k3
            dsimp only
            cases hw : (lws g.n.data.toList == lws nm.data.toList) with
            | true =>
              have hfn2 : fnd F nm = some g := by
                rw [HDj.out]
                unfold fnd
                rw [List.find?_append]
                have h2 : (F.take j).find? (fun f => lws f.n.data.toList == lws nm.data.toList) = none := HU.out.2
                rw [h2, List.find?_cons]
                simp [hw]
              rw [HFn.out.1] at hfn2
              cases hfn2
            | false =>
              have HN2 := Hid.of (show fnd (F.take (j + 1)) nm = none by
                rw [HTj.out]
                unfold fnd
                rw [List.find?_append]
                have h2 : (F.take j).find? (fun f => lws f.n.data.toList == lws nm.data.toList) = none := HU.out.2
                rw [h2, List.find?_cons]
                simp [hw])
              go_wp2
              go_roundw
              all_goals first
                | exact ⟨j + 1, by go_num, by omega, Hid.of ⟨HU6.out, HN2.out⟩⟩
                | (simp [intOf]; omega)
          · have hjz : ¬ (j : Int) < (ns.length : Int) := by omega
            have HAt := at_new wr 26 [.string ⟨#[97, 66]⟩, .string ⟨#[99]⟩]
            have HVl := Hid.of (Value_walk (some ⟨wr.heap.size, 0, none⟩) [⟨⟨#[97, 66]⟩, ⟨#[99]⟩⟩] 1 ⟨#[65, 98]⟩ (wr.alloc (.cells [.string ⟨#[97, 66]⟩, .string ⟨#[99]⟩].toArray 26)) ⟨Nat.le_refl _, fun i hi => by
              match i, hi with
              | 0, _ => exact ⟨wr.heap.size, 0, rfl, HAt.cell (i := 0) rfl, HAt.cell (i := 1) rfl⟩⟩ (by decide) (fun f hf => by
              obtain rfl := List.mem_singleton.1 hf
              decide))
            rw [show vlR [⟨⟨#[97, 66]⟩, ⟨#[99]⟩⟩] ⟨#[65, 98]⟩ = .tuple #[.string ⟨#[99]⟩, .bool true] by kernel_rfl] at HVl
            have HUA := Hid.of (HU.out.1.alloc (.cells [.string ⟨#[97, 66]⟩, .string ⟨#[99]⟩].toArray 26))
            clear HAt
            go_wp2_with fail
            refine HVl.out.mono ?_
            rintro e w8 ⟨rfl, u8⟩
            have HU8 := Hid.of (HUA.out.trans u8)
            clear u8
            dsimp only
            go_wp2
            go_ret
            exact ⟨rfl, HU4.out.trans HU8.out⟩
end Go.Proofs.Ytdgpnppnjkpfoaa
