import Derived.Test.YtaibjeehjhlicaaDoorYbi
namespace Go.Proofs.YtaibjeehjhlicaaDoor
open Go.RowKit Go.Shelf TextNum ModNum
set_option maxRecDepth 100000 in
set_option maxHeartbeats 4000000 in
theorem lentFiles_walk (a : Option Addr) (c : Nat) (ls : List GF) (w : World) (hF : FsL w a ls c) (hl : ls.length ≤ 1000000) (hs : ∀ g ∈ ls, g.ds.length ≤ 1099511626000) :
    Calls Tryd.prog 6 #[.slice a ls.length c] w fun e w' => ∃ a4 c4 a5 c5 fs vs, e = .returned (.tuple #[.slice a4 (ls.length + 100) c4, .slice a5 ls.length c5]) ∧ Lent w' w.heap.size a4 c4 ls.length fs 100 a5 c5 ls.length vs ∧ Up w w' ∧ fs.map pr = ls.map pr := by
  have HF := Hid.of hF
  have HS := Hid.of hs
  obtain ⟨n, hn⟩ : ∃ n, ls.length = n := ⟨_, rfl⟩
  rw [hn] at hl ⊢
  have HN := Hid.of hn
  clear hF hs hn
  go_enter Tryd.func6, Tryd.ntmps6
  go_wp2
  go_loopw [4, 5, 6, 7] (fun v4 v5 v6 _ wr => ∃ j : Nat, v6 = .int .i64 (j : Int) ∧ j ≤ n ∧ ∃ a4 c4 a5 c5, v4 = .slice a4 j c4 ∧ v5 = .slice a5 j c5 ∧ Hid (∃ fs vs, Lent wr w.heap.size a4 c4 j fs 0 a5 c5 j vs ∧ Up w wr ∧ fs.map pr = (ls.take j).map pr)) (fun _ _ v6 _ _ => n - (intOf v6).toNat)
  case atStart => exact ⟨0, rfl, by omega, none, 0, none, 0, rfl, rfl, Hid.of ⟨[], [], ⟨rfl, rfl, ⟨World.ownsRow_nil _ _ _ _, (fun g hg => by cases hg)⟩, World.ownsRow_nil _ _ _ _, (fun i h => by cases h), List.Pairwise.nil⟩, Up.refl w, rfl⟩⟩
  case round =>
    obtain ⟨j, rfl, hj, a4, c4, a5, c5, rfl, rfl, hQ⟩ := hrel
    obtain ⟨fs, vs, hq⟩ := hQ.out
    have HQ := Hid.of hq
    clear hQ hq
    by_cases hjl : j < n
    · have hjz : (j : Int) < (n : Int) := by omega
      have hjL : j < ls.length := by rw [HN.out]; exact hjl
      obtain ⟨b, off, rfl, k1, k2⟩ := HF.out.cells j hjL
      have hbw : b < w.heap.size := World.block_lt_of_cell? w _ k1
      obtain ⟨g, hg⟩ : ∃ g, ls[j] = g := ⟨_, rfl⟩
      have HT := Hid.of (show ls.take (j + 1) = ls.take j ++ [g] by rw [List.take_succ_eq_append_getElem hjL, hg])
      rw [hg] at k1 k2
      have hsb := HF.out.sb _ (List.getElem_mem hjL)
      have hgl := HS.out _ (List.getElem_mem hjL)
      rw [hg] at hsb hgl
      obtain ⟨ad, cd, hgv, hcd, _⟩ := id hsb
      have HSb := Hid.of hsb
      have HGv := Hid.of hgv
      obtain ⟨q, hq⟩ : ∃ q, g.ds.length = q := ⟨_, rfl⟩
      rw [hq] at hgl
      rw [hgv, hq] at k2
      have HK01 := Hid.of k1
      have HK02 := Hid.of k2
      have HHq := Hid.of hq
      have k2' := HQ.out.2.1.cell k2
      clear k1 k2 hsb hgv hcd hg hq
      have HSp := Hid.of (spare_walk (.slice ad q cd) g.ds wr (by rw [← HHq.out, ← HGv.out]; exact HSb.out.up HQ.out.2.1) (by rw [HHq.out]; omega) (by rw [HHq.out]; omega))
      go_wp2_with fail
      refine HSp.out.mono ?_
      rintro e w5 ⟨v5, rfl, o5, u5⟩
      obtain ⟨gb, cb5, hv5, hcb5, hgb, _, _⟩ := ow_some5 o5
      rw [HHq.out] at hv5 hcb5
      subst hv5
      have HOb := Hid.of (show Ow w5 w.heap.size (.slice (some ⟨gb, 0, none⟩) (q + 300) cb5) (g.ds ++ List.replicate 300 9) from ow_base o5 HQ.out.2.1.size)
      have HL5 := Hid.of (HQ.out.1.up u5)
      have HU5 := Hid.of (HQ.out.2.1.trans u5)
      have HM := Hid.of HQ.out.2.2
      have HFr := Hid.of (show ∀ p ∈ fs, ∀ k, p.v.ownBlock = some k → gb ≠ k from fun p hp k hk e => by
        have h1 := (World.ownsRow.lt (HQ.out.1.out.dat p (List.mem_append_left _ hp)) k hk).2
        omega)
      have hcz : (q : Int) ≤ (cb5 : Int) := by omega
      clear o5 u5 HSp HQ k2'
      dsimp only
      go_wp2_with (with_reducible show wpList _ _ _ ({ dst := _, op := Op.call { callee := Callee.builtin Builtin.append, args := _, argTypes := _ }, type := _, pos := _, after := _, guard := _ } :: _) _ _; refine Shut.out ?_)
      show wpList _ _ _ _ _ _
      obtain ⟨j0, hj0, hy0, hy1, hy2⟩ := info_parts Tryd.infoSl1
      refine wpList_append_frs rfl _ _ 32 rfl w.heap.size 27 j0 (.slice none 0 0) 24 Tryd.underlying32 hj0 hy0 hy1 hy2 rfl (.slice a5 j c5) j vs rfl (ow_up HL5.out.row ((Up.refl w5).alloc (.cells [.slice (some ⟨gb, 0, none⟩) (q + 300) cb5].toArray 27))) ⟨w5.heap.size, 0, none⟩ 1 1 [.slice (some ⟨gb, 0, none⟩) (q + 300) cb5] rfl rfl ?_ ?_ (by simp only [maxLen]; omega) (by omega) (by have := HU5.out.size; rw [alloc_size]; omega) ?_
      · intro j u hu
        rw [Addr.add_lit]
        exact At.cell (at_new w5 27 [.slice (some ⟨gb, 0, none⟩) (q + 300) cb5]) (i := 0 + j) (by rw [Nat.zero_add]; exact hu)
      · intro u hu
        obtain rfl := List.mem_singleton.1 hu
        rfl
      intro v9 w9 o9 g9 f9
      obtain ⟨a9, c9, rfl⟩ := row_len o9
      have hg9 := up_grown ((Up.refl w5).alloc (.cells [.slice (some ⟨gb, 0, none⟩) (q + 300) cb5].toArray 27)) g9
      have HL9 := Hid.of (HL5.out.wide (Nat.le_refl _) o9 hg9)
      have HU9 := Hid.of (show Up w w9 from up_grownBy HU5.out hg9 (fun k hk => (World.ownsRow.lt HL5.out.row k hk).1))
      have HOb9 := Hid.of (show Ow w9 w.heap.size (.slice (some ⟨gb, 0, none⟩) (q + 300) cb5) (g.ds ++ List.replicate 300 9) from World.ownsRow.kept HOb.out hg9 (own_off' HOb.out HL5.out.row (by decide)))
      clear o9 g9 f9 hg9 HL5 HU5 HOb
      simp only [Act.put, List.setIfInBounds_toArray, List.set_cons_zero, List.set_cons_succ]
      go_wp2
      have hb3 : ¬ (Value.slice a4 j c4).ownBlock = some b := fun e => by
        have h1 : w9.ownsRow w.heap.size 29 2 (.slice a4 j c4) j (fcs fs) := by
          have h5 := HL9.out.out.row
          rw [List.replicate_zero, List.append_nil, HL9.out.fl] at h5
          exact h5
        have h2 := (World.ownsRow.lt h1 b e).1
        omega
      have HK1 := Hid.of (HU9.out.cell HK01.out)
      have HK2 := Hid.of (HU9.out.cell HK02.out)
      refine wp_region_held_drew (S := fun w2 => Fr (fun k => (Value.slice a4 j c4).ownBlock = some k) w9 w2) (by kernel_rfl) ((Fr.refl _ _).up (Up.refl _).drew) (fun hS => ?_)
      refine wpAnyH_take (i := 0) (oi := { dst := some 25, op := Go.Op.move (Go.Operand.tmp 4), type := 30, pos := "outright.go:550", after := #[], guard := none }) (v := .slice a4 j c4) rfl (by kernel_rfl) (by kernel_rfl) (by kernel_rfl) (fun _ _ _ h => h) (Or.inl ⟨by kernel_rfl, ?_⟩) hS ?_
      · intro w5 hSw
        clear hSw hS
        go_simp
      simp only [Act.put, List.setIfInBounds_toArray, List.set_cons_zero, List.set_cons_succ]
      refine wpAnyH_take (i := 1) (oi := { dst := some 26, op := Go.Op.move (Go.Operand.tmp 0), type := 22, pos := "outright.go:550", after := #[], guard := none }) (v := .slice (some ⟨b, off, none⟩) n c) rfl (by kernel_rfl) (by kernel_rfl) (by kernel_rfl) (fun _ _ _ h => h) (Or.inl ⟨by kernel_rfl, ?_⟩) hS ?_
      · intro w5 hSw
        clear hSw hS
        go_simp
      simp only [Act.put, List.setIfInBounds_toArray, List.set_cons_zero, List.set_cons_succ]
      refine wpAnyH_take (i := 2) (oi := { dst := some 27, op := Go.Op.move (Go.Operand.tmp 6), type := 3, pos := "outright.go:550", after := #[], guard := none }) (v := .int .i64 (j : Int)) rfl (by kernel_rfl) (by kernel_rfl) (by kernel_rfl) (fun _ _ _ h => h) (Or.inl ⟨by kernel_rfl, ?_⟩) hS ?_
      · intro w5 hSw
        clear hSw hS
        go_simp
      simp only [Act.put, List.setIfInBounds_toArray, List.set_cons_zero, List.set_cons_succ]
      refine wpAnyH_take (i := 3) (oi := { dst := some 28, op := Go.Op.indexAddr 22 (Go.Operand.tmp 26) (Go.Operand.tmp 27), type := 0, pos := "outright.go:550", after := #[{ on := 1, ground := Go.Ground.data }, { on := 2, ground := Go.Ground.data }], guard := none }) (v := .pointer (some ⟨b, off + j * 2, none⟩)) rfl (by kernel_rfl) (by kernel_rfl) (by kernel_rfl) (fun _ _ _ h => h) (Or.inl ⟨by kernel_rfl, ?_⟩) hS ?_
      · intro w5 hSw
        clear hSw hS
        exact exec_idxLF j hjl rfl rfl rfl
      simp only [Act.put, List.setIfInBounds_toArray, List.set_cons_zero, List.set_cons_succ]
      refine wpAnyH_take (i := 4) (oi := { dst := some 29, op := Go.Op.fieldAddr 36 (Go.Operand.tmp 28) 0, type := 0, pos := "outright.go:550", after := #[{ on := 3, ground := Go.Ground.data }], guard := none }) (v := .pointer (some ⟨b, off + j * 2, none⟩)) rfl (by kernel_rfl) (by kernel_rfl) (by kernel_rfl) (fun _ _ _ h => h) (Or.inl ⟨by kernel_rfl, ?_⟩) hS ?_
      · intro w5 hSw
        clear hSw hS
        go_simp
      simp only [Act.put, List.setIfInBounds_toArray, List.set_cons_zero, List.set_cons_succ]
      refine wpAnyH_take (i := 5) (oi := { dst := some 30, op := Go.Op.load 9 (Go.Operand.tmp 29), type := 9, pos := "outright.go:550", after := #[{ on := 4, ground := Go.Ground.data }], guard := none }) (v := .string g.nm) rfl (by kernel_rfl) (by kernel_rfl) (by kernel_rfl) (fun _ _ _ h => h) (Or.inl ⟨by kernel_rfl, ?_⟩) hS ?_
      · intro w5 hSw
        have h0 := hSw.cell HK1.out hb3
        clear hSw hS
        go_simp
      simp only [Act.put, List.setIfInBounds_toArray, List.set_cons_zero, List.set_cons_succ]
      refine wpAnyH_take (i := 6) (oi := { dst := some 31, op := Go.Op.move (Go.Operand.tmp 7), type := 27, pos := "outright.go:550", after := #[], guard := none }) (v := .slice (some ⟨gb, 0, none⟩) (q + 300) cb5) rfl (by kernel_rfl) (by kernel_rfl) (by kernel_rfl) (fun _ _ _ h => h) (Or.inl ⟨by kernel_rfl, ?_⟩) hS ?_
      · intro w5 hSw
        clear hSw hS
        go_simp
      simp only [Act.put, List.setIfInBounds_toArray, List.set_cons_zero, List.set_cons_succ]
      refine wpAnyH_take (i := 7) (oi := { dst := some 32, op := Go.Op.move (Go.Operand.tmp 0), type := 22, pos := "outright.go:550", after := #[], guard := none }) (v := .slice (some ⟨b, off, none⟩) n c) rfl (by kernel_rfl) (by kernel_rfl) (by kernel_rfl) (fun _ _ _ h => h) (Or.inl ⟨by kernel_rfl, ?_⟩) hS ?_
      · intro w5 hSw
        clear hSw hS
        go_simp
      simp only [Act.put, List.setIfInBounds_toArray, List.set_cons_zero, List.set_cons_succ]
      refine wpAnyH_take (i := 8) (oi := { dst := some 33, op := Go.Op.move (Go.Operand.tmp 6), type := 3, pos := "outright.go:550", after := #[], guard := none }) (v := .int .i64 (j : Int)) rfl (by kernel_rfl) (by kernel_rfl) (by kernel_rfl) (fun _ _ _ h => h) (Or.inl ⟨by kernel_rfl, ?_⟩) hS ?_
      · intro w5 hSw
        clear hSw hS
        go_simp
      simp only [Act.put, List.setIfInBounds_toArray, List.set_cons_zero, List.set_cons_succ]
      refine wpAnyH_take (i := 9) (oi := { dst := some 34, op := Go.Op.indexAddr 22 (Go.Operand.tmp 32) (Go.Operand.tmp 33), type := 0, pos := "outright.go:550", after := #[{ on := 7, ground := Go.Ground.data }, { on := 8, ground := Go.Ground.data }], guard := none }) (v := .pointer (some ⟨b, off + j * 2, none⟩)) rfl (by kernel_rfl) (by kernel_rfl) (by kernel_rfl) (fun _ _ _ h => h) (Or.inl ⟨by kernel_rfl, ?_⟩) hS ?_
      · intro w5 hSw
        clear hSw hS
        exact exec_idxLF j hjl rfl rfl rfl
      simp only [Act.put, List.setIfInBounds_toArray, List.set_cons_zero, List.set_cons_succ]
      refine wpAnyH_take (i := 10) (oi := { dst := some 35, op := Go.Op.fieldAddr 36 (Go.Operand.tmp 34) 1, type := 0, pos := "outright.go:550", after := #[{ on := 9, ground := Go.Ground.data }], guard := none }) (v := .pointer (some ⟨b, off + j * 2 + 1, none⟩)) rfl (by kernel_rfl) (by kernel_rfl) (by kernel_rfl) (fun _ _ _ h => h) (Or.inl ⟨by kernel_rfl, ?_⟩) hS ?_
      · intro w5 hSw
        clear hSw hS
        go_simp
      simp only [Act.put, List.setIfInBounds_toArray, List.set_cons_zero, List.set_cons_succ]
      refine wpAnyH_take (i := 11) (oi := { dst := some 36, op := Go.Op.load 27 (Go.Operand.tmp 35), type := 27, pos := "outright.go:550", after := #[{ on := 10, ground := Go.Ground.data }], guard := none }) (v := .slice ad q cd) rfl (by kernel_rfl) (by kernel_rfl) (by kernel_rfl) (fun _ _ _ h => h) (Or.inl ⟨by kernel_rfl, ?_⟩) hS ?_
      · intro w5 hSw
        have h0 := hSw.cell HK2.out hb3
        clear hSw hS
        go_simp
      simp only [Act.put, List.setIfInBounds_toArray, List.set_cons_zero, List.set_cons_succ]
      refine wpAnyH_take (i := 12) (oi := { dst := some 37, op := Go.Op.call { callee := Go.Callee.builtin Go.Builtin.len, args := #[Go.Operand.tmp 36], argTypes := #[27] }, type := 3, pos := "outright.go:550", after := #[{ on := 11, ground := Go.Ground.data }], guard := none }) (v := .int .i64 (q : Int)) rfl (by kernel_rfl) (by kernel_rfl) (by kernel_rfl) (fun _ _ _ h => h) (Or.inl ⟨by kernel_rfl, ?_⟩) hS ?_
      · intro w5 hSw
        clear hSw hS
        go_simp
      simp only [Act.put, List.setIfInBounds_toArray, List.set_cons_zero, List.set_cons_succ]
      refine wpAnyH_take (i := 13) (oi := { dst := some 38, op := Go.Op.slice 27 (Go.Operand.tmp 31) none (some (Go.Operand.tmp 37)) none, type := 27, pos := "outright.go:550", after := #[{ on := 6, ground := Go.Ground.data }, { on := 12, ground := Go.Ground.data }], guard := none }) (v := .slice (some ⟨gb, 0, none⟩) q cb5) rfl (by kernel_rfl) (by kernel_rfl) (by kernel_rfl) (fun _ _ _ h => h) (Or.inl ⟨by kernel_rfl, ?_⟩) hS ?_
      · intro w5 hSw
        clear hSw hS
        go_simp
      simp only [Act.put, List.setIfInBounds_toArray, List.set_cons_zero, List.set_cons_succ]
      refine wpAnyH_take (i := 14) (oi := { dst := some 39, op := Go.Op.build 29 #[(0, Go.Operand.tmp 30), (1, Go.Operand.tmp 38)], type := 29, pos := "outright.go:550", after := #[{ on := 5, ground := Go.Ground.data }, { on := 13, ground := Go.Ground.data }], guard := none }) (v := .agg #[.string g.nm, .slice (some ⟨gb, 0, none⟩) q cb5]) rfl (by kernel_rfl) (by kernel_rfl) (by kernel_rfl) (fun _ _ _ h => h) (Or.inl ⟨by kernel_rfl, ?_⟩) hS ?_
      · intro w5 hSw
        clear hSw hS
        go_simp
      simp only [Act.put, List.setIfInBounds_toArray, List.set_cons_zero, List.set_cons_succ]
      refine wpAnyH_ready (rs := [15]) (by kernel_rfl) (by simp) ?_
      refine AllReadyH.cons (o := { dst := some 40, op := Go.Op.buildSlice 30 1 #[(0, Go.Operand.tmp 39)], type := 30, pos := "outright.go:550", after := #[{ on := 14, ground := Go.Ground.data }], guard := none }) rfl (fun K hK => ?_) AllReadyH.nil
      rw [if_pos (by kernel_rfl)]
      go_simp
      refine hK.out _ _ (hS.up ((Up.refl w9.drew).alloc _)) (fun hS => ?_)
      clear hK K
      refine wpAnyH_ready (rs := [16]) (by kernel_rfl) (by simp) ?_
      refine AllReadyH.cons (o := { dst := some 41, op := Go.Op.call { callee := Go.Callee.builtin Go.Builtin.append, args := #[Go.Operand.tmp 25, Go.Operand.tmp 40], argTypes := #[30, 30] }, type := 30, pos := "outright.go:550", after := #[{ on := 0, ground := Go.Ground.data }, { on := 15, ground := Go.Ground.data }], guard := none }) rfl (fun K hK => oper_of_list ?_) AllReadyH.nil
      have HLd := Hid.of (HL9.out.up (Up.refl w9).drew)
      have hfo : FsO w9.drew w.heap.size a4 fs c4 := by
        have h5 := HLd.out.out
        rw [List.replicate_zero, List.append_nil] at h5
        exact h5
      have hob : Ow w9.drew w.heap.size (.slice (some ⟨gb, 0, none⟩) (q + 300) cb5) (g.ds ++ List.replicate 300 9) := ow_up HOb9.out (Up.refl w9).drew
      have hoq := Ow.pre hob
      rw [HHq.out] at hoq
      refine wpList_appFile (w := w9.drew) (N := w.heap.size) rfl _ _ rfl a4 c4 fs ⟨g.nm, .slice (some ⟨gb, 0, none⟩) q cb5, g.ds⟩ HL9.out.fl rfl rfl hfo hoq (Nat.le_trans HU9.out.size (Up.refl w9).drew.size) (by omega) ?_
      clear hfo hoq
      intro ax2 cx2 w7 o7 u7 g7
      have HL7 := Hid.of (show Lent w7 w.heap.size ax2 cx2 (j + 1) (fs ++ [⟨g.nm, .slice (some ⟨gb, 0, none⟩) q cb5, g.ds⟩]) 0 a9 c9 (j + 1) (vs ++ [.slice (some ⟨gb, 0, none⟩) (q + 300) cb5]) from HLd.out.file o7 g7 (gb := gb) (cb' := cb5) (fun hh => by
        have h5 := HLd.out.vl
        rw [List.length_append, List.length_singleton] at h5
        refine ⟨by show Value.slice _ q _ = .slice _ g.ds.length _; rw [HHq.out], ?_⟩
        rw [List.getElem_append_right (by omega)]
        rw [List.getElem_singleton]
        exact ⟨by show Value.slice _ (q + 300) _ = .slice _ (g.ds.length + 300) _; rw [HHq.out], hob⟩) (fun p hp k hk e => HFr.out p hp k hk (Option.some.inj e)))
      have HU7 := Hid.of (u7 w (HU9.out.trans (Up.refl w9).drew) (Nat.le_refl _))
      have HG7 := Hid.of g7
      clear o7 u7 g7 hob
      refine hK.out _ _ (((Fr.refl _ _).up (Up.refl w9).drew).by HG7.out (fun k hk => .inl hk)) (fun hS => ?_)
      clear hK K
      simp only [Act.put, List.setIfInBounds_toArray, List.set_cons_zero, List.set_cons_succ]
      refine wpAnyH_take (i := 17) (oi := { dst := some 4, op := Go.Op.assign (Go.Operand.tmp 41), type := 30, pos := "outright.go:550", after := #[{ on := 16, ground := Go.Ground.data }, { on := 16, ground := Go.Ground.chain }, { on := 0, ground := Go.Ground.phase }, { on := 1, ground := Go.Ground.phase }, { on := 2, ground := Go.Ground.phase }, { on := 3, ground := Go.Ground.phase }, { on := 4, ground := Go.Ground.phase }, { on := 5, ground := Go.Ground.phase }, { on := 6, ground := Go.Ground.phase }, { on := 7, ground := Go.Ground.phase }, { on := 8, ground := Go.Ground.phase }, { on := 9, ground := Go.Ground.phase }, { on := 10, ground := Go.Ground.phase }, { on := 11, ground := Go.Ground.phase }, { on := 12, ground := Go.Ground.phase }, { on := 13, ground := Go.Ground.phase }, { on := 14, ground := Go.Ground.phase }, { on := 15, ground := Go.Ground.phase }, { on := 16, ground := Go.Ground.phase }], guard := none }) (v := .slice ax2 (j + 1) cx2) rfl (by kernel_rfl) (by kernel_rfl) (by kernel_rfl) (fun _ _ _ h => h) (Or.inl ⟨by kernel_rfl, ?_⟩) hS ?_
      · intro w5 hSw
        clear hSw hS
        go_simp
      simp only [Act.put, List.setIfInBounds_toArray, List.set_cons_zero, List.set_cons_succ]
      clear hS
      refine wpAnyH_done (by kernel_rfl) ?_ _
      go_wp2
      go_roundw
      all_goals first
        | exact ⟨j + 1, by go_num, by omega, ax2, cx2, a9, c9, rfl, rfl, Hid.of ⟨_, _, HL7.out, HU7.out, by rw [HT.out, List.map_append, List.map_append, HM.out]; rfl⟩⟩
        | (simp [intOf]; omega)
    · have hie : n = j := by omega
      have hjz : ¬ (j : Int) < (j : Int) := by omega
      have HX := Hid.of (show fs.map pr = ls.map pr by rw [HQ.out.2.2, List.take_of_length_le (by rw [HN.out]; omega)])
      subst hie
      have HQ2 := Hid.of (And.intro HQ.out.1 HQ.out.2.1)
      clear HQ
      go_wp2
      go_loopw [4, 8] (fun v4 v8 wr => ∃ k : Nat, v8 = .int .i64 (k : Int) ∧ k ≤ 100 ∧ ∃ a4 c4, v4 = .slice a4 (n + k) c4 ∧ Hid (Lent wr w.heap.size a4 c4 n fs k a5 c5 n vs ∧ Up w wr)) (fun _ v8 _ => 100 - (intOf v8).toNat)
      case atStart => exact ⟨0, rfl, by omega, a4, c4, rfl, Hid.of HQ2.out⟩
      case round =>
        clear HQ2
        obtain ⟨k, rfl, hk, a4, c4, rfl, hQ⟩ := hrel
        have HQ := Hid.of hQ.out
        clear hQ
        by_cases hkl : k < 100
        · have hkz : (k : Int) < 100 := by omega
          go_wp2_with (with_reducible show wpList _ _ _ ({ dst := _, op := Op.call { callee := Callee.builtin Builtin.append, args := _, argTypes := _ }, type := _, pos := _, after := _, guard := _ } :: _) _ _; refine Shut.out ?_)
          show wpList _ _ _ _ _ _
          refine wpList_appFile (w := wr) (N := w.heap.size) rfl _ _ rfl a4 c4 (fs ++ List.replicate k hsh) hsh (by rw [List.length_append, List.length_replicate, HQ.out.1.fl]) rfl rfl HQ.out.1.out (World.ownsRow_nil _ _ _ _) HQ.out.2.size (by omega) ?_
          intro ax2 cx2 w7 o7 u7 g7
          have HL7 := Hid.of (HQ.out.1.hash o7 g7)
          have HU7 := Hid.of (u7 w HQ.out.2 (Nat.le_refl _))
          clear o7 u7 g7
          simp only [Act.put, List.setIfInBounds_toArray, List.set_cons_zero, List.set_cons_succ]
          go_wp2
          go_roundw
          all_goals first
            | exact ⟨k + 1, by go_num, by omega, ax2, cx2, rfl, Hid.of ⟨HL7.out, HU7.out⟩⟩
            | (simp [intOf]; omega)
        · have hie : k = 100 := by omega
          subst hie
          go_wp2
          go_ret2
          exact ⟨a4, c4, a5, c5, fs, vs, rfl, HQ.out.1, HQ.out.2, HX.out⟩
end Go.Proofs.YtaibjeehjhlicaaDoor
