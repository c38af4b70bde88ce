import Derived.Test.YtaibjeehjhlicaaGreatDoorQat
namespace Go.Proofs.YtaibjeehjhlicaaGreatDoor
open Go.RowKit Go.Shelf TextNum ModNum
/-- where a walk goes on behind one operation, and nowhere else -/
def onto (K : Act → World → Prop) : Exit → Act → World → Prop
  | .normal, a, w => K a w
  | _, _, _ => False
/-- an operation of a region that draws is run by a law about lists -/
theorem oper_of_list {P : Program} {ops : Array Oper} {Q : Exit → Act → World → Prop} {K : Act → World → Prop} {o : Oper} {a : Act} {w : World} (h : wpList P ops (onto K) [o] a w) : if Region.wanted o (yielded ops a.tmps) = true then Oper.wp P o a w K Q else K (a.put o.dst undef) w := by
  unfold wpList at h
  split
  · rename_i hw
    rw [if_pos hw] at h
    rcases h with h | ⟨_, ⟨_, _, h⟩⟩
    · have e : wpList P ops (onto K) [] = K := rfl
      rw [e] at h
      unfold Oper.wp at *
      generalize (execOp a.eval o).run P w = r at *
      cases r with
      | ok n w' =>
        cases n <;> simp only [Oper.upon] at h ⊢
        case value u => exact h
        case skip => exact h
        case defer d => exact h
        case enter f args =>
          refine Calls.mono h fun e w'' he => ?_
          cases e with
          | returned u => exact he
          | panicked c => exact he.elim
          | outgrown =>
            obtain ⟨_, _, h⟩ := he
            exact h.elim
        case row row args => exact h
      | halt x w' =>
        cases x <;> simp only [Oper.upon] at h ⊢
        case panic u => exact h.elim
    · exact h.elim
  · rename_i hw
    rw [if_neg hw] at h
    exact h
end Go.Proofs.YtaibjeehjhlicaaGreatDoor
namespace Go.Proofs.YtaibjeehjhlicaaGreatDoor
open Go.RowKit Go.Shelf TextNum ModNum
theorem Fr.cell {S : Nat → Prop} {w w' : World} (h : Fr S w w') {p : Addr} {v : Value} (hp : w.cell? p = some v) (hS : ¬ S p.block) : w'.cell? p = some v := by
  have hb := h.block _ (World.block_lt_of_cell? w p hp) hS
  unfold World.cell? at hp ⊢
  rw [hb]
  exact hp
set_option maxRecDepth 100000 in
set_option maxHeartbeats 4000000 in
theorem copies_walk (a : Option Addr) (c : Nat) (fs : List GF) (w : World) (hF : FsL w a fs c) (hl : fs.length ≤ 1000000) (hs : ∀ g ∈ fs, g.ds.length ≤ 1099511627776) :
    Calls Tryz.prog 14 #[.slice a fs.length c] w fun e w' => ∃ a' fs' c', e = .returned (.slice a' (List.length fs') c') ∧ FsO w' w.heap.size a' fs' c' ∧ Up w w' ∧ (fs'.map fun g => (g.nm.data.toList, g.ds)) = fs.map fun g => (g.nm.data.toList, g.ds) := by
  have HF := Hid.of hF
  have HS := Hid.of hs
  clear hF hs
  go_enter Tryz.func14, Tryz.ntmps14
  go_wp2
  go_loopw [3, 4] (fun v3 v4 wq => ∃ j : Nat, v4 = .int .i64 (j : Int) ∧ j ≤ fs.length ∧ ∃ a3 fs3 c3, v3 = .slice a3 j c3 ∧ List.length fs3 = j ∧ Hid (FsO wq w.heap.size a3 fs3 c3 ∧ Up w wq ∧ (fs3.map fun g => (g.nm.data.toList, g.ds)) = (fs.take j).map fun g => (g.nm.data.toList, g.ds))) (fun _ v4 _ => fs.length - (intOf v4).toNat)
  case atStart => exact ⟨0, rfl, by omega, none, [], 0, rfl, rfl, Hid.of ⟨⟨World.ownsRow_nil _ _ _ _, (fun g hg => by cases hg)⟩, Up.refl w, rfl⟩⟩
  case round =>
    obtain ⟨j, rfl, hj, a3, fs3, c3, rfl, hj3, hQ⟩ := hrel
    have HQ := Hid.of hQ.out
    clear hQ
    by_cases hjl : j < fs.length
    · have hjz : (j : Int) < (fs.length : Int) := by omega
      obtain ⟨b, off, rfl, k1, k2⟩ := HF.out.cells j hjl
      have HK1 := Hid.of (HQ.out.2.1.cell k1)
      have HK2 := Hid.of (HQ.out.2.1.cell k2)
      have HSb := Hid.of (HF.out.sb _ (List.getElem_mem hjl))
      have hgl := HS.out _ (List.getElem_mem hjl)
      have HT := Hid.of (List.take_succ_eq_append_getElem hjl)
      have hb3 : ¬ (Value.slice a3 j c3).ownBlock = some b := fun e => by
        have h1 := (World.ownsRow.lt HQ.out.1.row b (by rw [hj3]; exact e)).1
        have h2 := World.block_lt_of_cell? w _ k1
        have h3 : b < w.heap.size := h2
        omega
      obtain ⟨g, hg⟩ : ∃ g, fs[j] = g := ⟨_, rfl⟩
      rw [hg] at HK1 HK2 HSb hgl HT
      clear k1 k2 hg
      go_wp2
      refine wp_region_held_drew (S := fun w2 => Fr (fun k => (Value.slice a3 j c3).ownBlock = some k) wr w2) (by kernel_rfl) ((Fr.refl _ _).up (Up.refl _).drew) (fun hS => ?_)
      refine wpAnyH_take (i := 0) (oi := { dst := some 11, op := Go.Op.move (Go.Operand.tmp 3), type := 32, pos := "outright.go:29", after := #[], guard := none }) (v := .slice a3 j c3) rfl (by kernel_rfl) (by kernel_rfl) (by kernel_rfl) (fun _ _ _ h => h) (Or.inl ⟨by kernel_rfl, ?_⟩) hS ?_
      · intro w5 hSw
        clear hSw hS
        go_simp
      simp only [Act.put, List.setIfInBounds_toArray, List.set_cons_zero, List.set_cons_succ]
      refine wpAnyH_take (i := 1) (oi := { dst := some 12, op := Go.Op.move (Go.Operand.tmp 0), type := 32, pos := "outright.go:29", after := #[], guard := none }) (v := .slice (some ⟨b, off, none⟩) fs.length c) rfl (by kernel_rfl) (by kernel_rfl) (by kernel_rfl) (fun _ _ _ h => h) (Or.inl ⟨by kernel_rfl, ?_⟩) hS ?_
      · intro w5 hSw
        clear hSw hS
        go_simp
      simp only [Act.put, List.setIfInBounds_toArray, List.set_cons_zero, List.set_cons_succ]
      refine wpAnyH_take (i := 2) (oi := { dst := some 13, op := Go.Op.move (Go.Operand.tmp 4), type := 3, pos := "outright.go:29", after := #[], guard := none }) (v := .int .i64 (j : Int)) rfl (by kernel_rfl) (by kernel_rfl) (by kernel_rfl) (fun _ _ _ h => h) (Or.inl ⟨by kernel_rfl, ?_⟩) hS ?_
      · intro w5 hSw
        clear hSw hS
        go_simp
      simp only [Act.put, List.setIfInBounds_toArray, List.set_cons_zero, List.set_cons_succ]
      refine wpAnyH_take (i := 3) (oi := { dst := some 14, op := Go.Op.indexAddr 32 (Go.Operand.tmp 12) (Go.Operand.tmp 13), type := 0, pos := "outright.go:29", after := #[{ on := 1, ground := Go.Ground.data }, { on := 2, ground := Go.Ground.data }], guard := none }) (v := .pointer (some ⟨b, off + j * 2, none⟩)) rfl (by kernel_rfl) (by kernel_rfl) (by kernel_rfl) (fun _ _ _ h => h) (Or.inl ⟨by kernel_rfl, ?_⟩) hS ?_
      · intro w5 hSw
        clear hSw hS
        exact exec_idxFile j hjl rfl rfl rfl
      simp only [Act.put, List.setIfInBounds_toArray, List.set_cons_zero, List.set_cons_succ]
      refine wpAnyH_take (i := 4) (oi := { dst := some 15, op := Go.Op.fieldAddr 49 (Go.Operand.tmp 14) 0, type := 0, pos := "outright.go:29", after := #[{ on := 3, ground := Go.Ground.data }], guard := none }) (v := .pointer (some ⟨b, off + j * 2, none⟩)) rfl (by kernel_rfl) (by kernel_rfl) (by kernel_rfl) (fun _ _ _ h => h) (Or.inl ⟨by kernel_rfl, ?_⟩) hS ?_
      · intro w5 hSw
        clear hSw hS
        go_simp
      simp only [Act.put, List.setIfInBounds_toArray, List.set_cons_zero, List.set_cons_succ]
      refine wpAnyH_take (i := 5) (oi := { dst := some 16, op := Go.Op.load 9 (Go.Operand.tmp 15), type := 9, pos := "outright.go:29", after := #[{ on := 4, ground := Go.Ground.data }], guard := none }) (v := .string g.nm) rfl (by kernel_rfl) (by kernel_rfl) (by kernel_rfl) (fun _ _ _ h => h) (Or.inl ⟨by kernel_rfl, ?_⟩) hS ?_
      · intro w5 hSw
        have h0 := hSw.cell HK1.out hb3
        clear hSw hS
        go_simp
      simp only [Act.put, List.setIfInBounds_toArray, List.set_cons_zero, List.set_cons_succ]
      refine wpAnyH_take (i := 6) (oi := { dst := some 17, op := Go.Op.move (Go.Operand.tmp 0), type := 32, pos := "outright.go:29", after := #[], guard := none }) (v := .slice (some ⟨b, off, none⟩) fs.length c) rfl (by kernel_rfl) (by kernel_rfl) (by kernel_rfl) (fun _ _ _ h => h) (Or.inl ⟨by kernel_rfl, ?_⟩) hS ?_
      · intro w5 hSw
        clear hSw hS
        go_simp
      simp only [Act.put, List.setIfInBounds_toArray, List.set_cons_zero, List.set_cons_succ]
      refine wpAnyH_take (i := 7) (oi := { dst := some 18, op := Go.Op.move (Go.Operand.tmp 4), type := 3, pos := "outright.go:29", after := #[], guard := none }) (v := .int .i64 (j : Int)) rfl (by kernel_rfl) (by kernel_rfl) (by kernel_rfl) (fun _ _ _ h => h) (Or.inl ⟨by kernel_rfl, ?_⟩) hS ?_
      · intro w5 hSw
        clear hSw hS
        go_simp
      simp only [Act.put, List.setIfInBounds_toArray, List.set_cons_zero, List.set_cons_succ]
      refine wpAnyH_take (i := 8) (oi := { dst := some 19, op := Go.Op.indexAddr 32 (Go.Operand.tmp 17) (Go.Operand.tmp 18), type := 0, pos := "outright.go:29", after := #[{ on := 6, ground := Go.Ground.data }, { on := 7, ground := Go.Ground.data }], guard := none }) (v := .pointer (some ⟨b, off + j * 2, none⟩)) rfl (by kernel_rfl) (by kernel_rfl) (by kernel_rfl) (fun _ _ _ h => h) (Or.inl ⟨by kernel_rfl, ?_⟩) hS ?_
      · intro w5 hSw
        clear hSw hS
        exact exec_idxFile j hjl rfl rfl rfl
      simp only [Act.put, List.setIfInBounds_toArray, List.set_cons_zero, List.set_cons_succ]
      refine wpAnyH_take (i := 9) (oi := { dst := some 20, op := Go.Op.fieldAddr 49 (Go.Operand.tmp 19) 1, type := 0, pos := "outright.go:29", after := #[{ on := 8, ground := Go.Ground.data }], guard := none }) (v := .pointer (some ⟨b, off + j * 2 + 1, none⟩)) rfl (by kernel_rfl) (by kernel_rfl) (by kernel_rfl) (fun _ _ _ h => h) (Or.inl ⟨by kernel_rfl, ?_⟩) hS ?_
      · intro w5 hSw
        clear hSw hS
        go_simp
      simp only [Act.put, List.setIfInBounds_toArray, List.set_cons_zero, List.set_cons_succ]
      refine wpAnyH_take (i := 10) (oi := { dst := some 21, op := Go.Op.load 41 (Go.Operand.tmp 20), type := 41, pos := "outright.go:29", after := #[{ on := 9, ground := Go.Ground.data }], guard := none }) (v := g.v) rfl (by kernel_rfl) (by kernel_rfl) (by kernel_rfl) (fun _ _ _ h => h) (Or.inl ⟨by kernel_rfl, ?_⟩) hS ?_
      · intro w5 hSw
        have h0 := hSw.cell HK2.out hb3
        clear hSw hS
        go_simp
      simp only [Act.put, List.setIfInBounds_toArray, List.set_cons_zero, List.set_cons_succ]
      refine wpAnyH_ready (rs := [11]) (by kernel_rfl) (by simp) ?_
      refine AllReadyH.cons (o := { dst := some 22, op := Go.Op.call { callee := Go.Callee.value (Go.Operand.func 23), args := #[Go.Operand.tmp 21], argTypes := #[41] }, type := 41, pos := "outright.go:29", after := #[{ on := 10, ground := Go.Ground.data }], guard := none }) rfl (fun K hK => ?_) AllReadyH.nil
      rw [if_pos (by kernel_rfl)]
      go_simp
      refine (copied_walk g.v g.ds wr.drew ((HSb.out.up HQ.out.2.1).up (Up.refl _).drew) (by omega)).mono ?_
      rintro e w5 ⟨v5, rfl, o5, u5⟩
      obtain ⟨a5, l5, c5, rfl⟩ : ∃ a l c, v5 = .slice a l c := by
        obtain ⟨a, c, h, _⟩ := id (Ow.sb o5)
        exact ⟨a, _, c, h⟩
      dsimp only
      have HU5 := Hid.of ((Up.refl wr).drew.trans u5)
      have HO5 := Hid.of (show Ow w5 w.heap.size (.slice a5 l5 c5) g.ds from ow_base o5 HQ.out.2.1.size)
      clear o5 u5
      refine hK.out _ _ ((Fr.refl _ _).up HU5.out) (fun hS => ?_)
      clear hK K
      refine wpAnyH_take (i := 12) (oi := { dst := some 23, op := Go.Op.build 49 #[(0, Go.Operand.tmp 16), (1, Go.Operand.tmp 22)], type := 49, pos := "outright.go:29", after := #[{ on := 5, ground := Go.Ground.data }, { on := 11, ground := Go.Ground.data }], guard := none }) (v := .agg #[.string g.nm, .slice a5 l5 c5]) rfl (by kernel_rfl) (by kernel_rfl) (by kernel_rfl) (fun _ _ _ h => h) (Or.inl ⟨by kernel_rfl, ?_⟩) hS ?_
      · intro w5 hSw
        clear hSw hS
        go_simp
      simp only [Act.put, List.setIfInBounds_toArray, List.set_cons_zero, List.set_cons_succ]
      refine wpAnyH_ready (rs := [13]) (by kernel_rfl) (by simp) ?_
      refine AllReadyH.cons (o := { dst := some 24, op := Go.Op.buildSlice 32 1 #[(0, Go.Operand.tmp 23)], type := 32, pos := "outright.go:29", after := #[{ on := 12, ground := Go.Ground.data }], guard := none }) rfl (fun K hK => ?_) AllReadyH.nil
      rw [if_pos (by kernel_rfl)]
      go_simp
      refine hK.out _ _ (hS.up ((Up.refl w5).alloc _)) (fun hS => ?_)
      clear hK K
      refine wpAnyH_ready (rs := [14]) (by kernel_rfl) (by simp) ?_
      refine AllReadyH.cons (o := { dst := some 25, op := Go.Op.call { callee := Go.Callee.builtin Go.Builtin.append, args := #[Go.Operand.tmp 11, Go.Operand.tmp 24], argTypes := #[32, 32] }, type := 32, pos := "outright.go:29", after := #[{ on := 0, ground := Go.Ground.data }, { on := 13, ground := Go.Ground.data }, { on := 11, ground := Go.Ground.chain }], guard := none }) rfl (fun K hK => oper_of_list ?_) AllReadyH.nil
      refine wpList_appFile (w := w5) (N := w.heap.size) rfl _ _ rfl a3 c3 fs3 ⟨g.nm, .slice a5 l5 c5, g.ds⟩ hj3 rfl rfl (HQ.out.1.up HU5.out) HO5.out (Nat.le_trans HQ.out.2.1.size HU5.out.size) (by omega) ?_
      intro ax2 cx2 w7 o7 u7 g7
      have HO7 := Hid.of o7
      have HU7 := Hid.of (u7 w (HQ.out.2.1.trans HU5.out) (Nat.le_refl _))
      have HG7 := Hid.of g7
      clear o7 u7 g7
      refine hK.out _ _ (((Fr.refl _ _).up HU5.out).by HG7.out (fun k hk => .inl hk)) (fun hS => ?_)
      clear hK K
      simp only [Act.put, List.setIfInBounds_toArray, List.set_cons_zero, List.set_cons_succ]
      refine wpAnyH_take (i := 15) (oi := { dst := some 3, op := Go.Op.assign (Go.Operand.tmp 25), type := 32, pos := "outright.go:29", after := #[{ on := 14, ground := Go.Ground.data }, { on := 14, ground := Go.Ground.chain }, { on := 0, ground := Go.Ground.phase }, { on := 1, ground := Go.Ground.phase }, { on := 2, ground := Go.Ground.phase }, { on := 3, ground := Go.Ground.phase }, { on := 4, ground := Go.Ground.phase }, { on := 5, ground := Go.Ground.phase }, { on := 6, ground := Go.Ground.phase }, { on := 7, ground := Go.Ground.phase }, { on := 8, ground := Go.Ground.phase }, { on := 9, ground := Go.Ground.phase }, { on := 10, ground := Go.Ground.phase }, { on := 11, ground := Go.Ground.phase }, { on := 12, ground := Go.Ground.phase }, { on := 13, ground := Go.Ground.phase }, { on := 14, ground := Go.Ground.phase }], guard := none }) (v := .slice ax2 (j + 1) cx2) rfl (by kernel_rfl) (by kernel_rfl) (by kernel_rfl) (fun _ _ _ h => h) (Or.inl ⟨by kernel_rfl, ?_⟩) hS ?_
      · intro w5 hSw
        clear hSw hS
        go_simp
      simp only [Act.put, List.setIfInBounds_toArray, List.set_cons_zero, List.set_cons_succ]
      clear hS
      refine wpAnyH_done (by kernel_rfl) ?_ _
      go_wp2
      go_roundw
      all_goals first
        | exact ⟨j + 1, by go_num, by omega, ax2, _, cx2, rfl, by rw [List.length_append, hj3]; rfl, Hid.of ⟨HO7.out, HU7.out, by rw [HT.out, List.map_append, List.map_append, HQ.out.2.2]; rfl⟩⟩
        | (simp [intOf]; omega)
    · have hjz : ¬ (j : Int) < (fs.length : Int) := by omega
      have HX := Hid.of (show (fs3.map fun g => (g.nm.data.toList, g.ds)) = fs.map fun g => (g.nm.data.toList, g.ds) by rw [HQ.out.2.2, List.take_of_length_le (by omega)])
      subst hj3
      go_wp2
      go_ret
      exact ⟨a3, fs3, c3, rfl, HQ.out.1, HQ.out.2.1, HX.out⟩
end Go.Proofs.YtaibjeehjhlicaaGreatDoor
