import Derived.Test.YtaibjeehjhlicaaDoorYbj
namespace Go.Proofs.YtaibjeehjhlicaaDoor
open Go.RowKit Go.Shelf TextNum ModNum
theorem pr_nth {fs ls : List GF} (h : fs.map pr = ls.map pr) {i : Nat} (h1 : i < fs.length) (h2 : i < ls.length) : fs[i].nm = ls[i].nm ∧ fs[i].ds = ls[i].ds := by
  have h3 := congrArg (fun l => l[i]?) h
  simp only [List.getElem?_map, List.getElem?_eq_getElem h1, List.getElem?_eq_getElem h2, Option.map_some, Option.some.injEq] at h3
  injection h3 with h4 h5
  refine ⟨?_, h5⟩
  cases hx : fs[i].nm with
  | mk x =>
    cases hy : ls[i].nm with
    | mk y =>
      rw [hx, hy] at h4
      have : x = y := Array.toList_inj.1 h4
      rw [this]
set_option maxRecDepth 100000 in
set_option maxHeartbeats 8000000 in
theorem asGiven_walk (a a4 a5 : Option Addr) (c c4 c5 n N : Nat) (ls fs : List GF) (vs : List Value) (w : World) (hL : Lent w N a4 c4 n fs 100 a5 c5 n vs) (hF : FsL w a ls c) (hn : ls.length = n) (hl : n ≤ 1000000) (hs : ∀ g ∈ ls, g.ds.length ≤ 1099511626000) (hm : fs.map pr = ls.map pr) :
    Calls Tryd.prog 7 #[.slice a4 (n + 100) c4, .slice a5 n c5, .slice a n c] w fun e w' => e = .returned (.bool true) ∧ Up w w' := by
  have HL := Hid.of hL
  have HF := Hid.of hF
  have HN := Hid.of hn
  have HM := Hid.of hm
  have HS := Hid.of hs
  clear hL hF hn hm hs
  go_enter Tryd.func7, Tryd.ntmps7
  go_wp2
  go_loopw [7] (fun v7 wr => ∃ i : Nat, v7 = .int .i64 (i : Int) ∧ i ≤ n ∧ Hid (Up w wr)) (fun v7 _ => n - (intOf v7).toNat)
  case atStart => exact ⟨0, rfl, by omega, Hid.of (Up.refl w)⟩
  case round =>
    obtain ⟨i, rfl, hi, hQ⟩ := hrel
    have HQ := Hid.of hQ.out
    clear hQ
    by_cases hin : i < n
    · have hz : (i : Int) < (n : Int) := by omega
      have hz1 : (i : Int) < (n : Int) + 100 := by omega
      have hin1 : i < n + 100 := by omega
      have hiL : i < ls.length := by rw [HN.out]; exact hin
      have hif : i < fs.length := by rw [HL.out.fl]; exact hin
      have hiv : i < vs.length := by rw [HL.out.vl]; exact hin
      obtain ⟨b, off, rfl, k1, k2⟩ := HF.out.cells i hiL
      obtain ⟨e1, e2⟩ := pr_nth HM.out hif hiL
      obtain ⟨gi, ci, f1, f2, f3⟩ := HL.out.el i hif hiv
      have hia : i < (fs ++ List.replicate 100 hsh).length := by rw [List.length_append]; omega
      obtain ⟨g4, hg4, _, k3, k4, _⟩ := HL.out.out.some hia
      rw [List.getElem_append_left hif] at k3 k4
      subst hg4
      have k5 : ∃ g5, a5 = some ⟨g5, 0, none⟩ ∧ w.cell? ⟨g5, i, none⟩ = some vs[i] := by
        rcases HL.out.row.2 with ⟨_, h0⟩ | ⟨g, cap, cur, e, _⟩
        · omega
        · injection e with e1 _ _
          subst e1
          have h5 := World.ownsRow.cells HL.out.row (g := g) rfl i _ (List.getElem?_eq_getElem hiv)
          rw [Addr.add_lit, Nat.zero_add] at h5
          exact ⟨g, rfl, h5⟩
      obtain ⟨g5, hg5, k5⟩ := k5
      subst hg5
      have hgl := HS.out _ (List.getElem_mem hiL)
      have hsb := HF.out.sb _ (List.getElem_mem hiL)
      obtain ⟨ad, cd, hgv, hcd, _⟩ := id hsb
      have hob := Ow.pre (by rw [f2] at f3; exact f3)
      rw [f2] at f3 k5
      rw [f1] at k4
      rw [hgv] at k2
      rw [e1] at k3
      rw [e2] at f3 k4 k5 hob
      rw [hgv] at hsb
      obtain ⟨nm, hnm⟩ : ∃ nm, ls[i].nm = nm := ⟨_, rfl⟩
      obtain ⟨ds, hds⟩ : ∃ ds, ls[i].ds = ds := ⟨_, rfl⟩
      rw [hnm] at k1 k3
      rw [hds] at k2 k4 k5 f3 hob hsb hgl
      obtain ⟨q, hq⟩ : ∃ q, ds.length = q := ⟨_, rfl⟩
      rw [hq] at k2 k4 k5 f3 hob hsb hgl
      have HK1 := Hid.of (HQ.out.cell k1)
      have HK2 := Hid.of (HQ.out.cell k2)
      have HK3 := Hid.of (HQ.out.cell k3)
      have HK4 := Hid.of (HQ.out.cell k4)
      have HK5 := Hid.of (HQ.out.cell k5)
      have HSb := Hid.of (hsb.up HQ.out)
      have HOb := Hid.of (hob.sb.up HQ.out)
      have HWd := Hid.of (f3.sb.up HQ.out)
      have HHq := Hid.of hq
      clear k1 k2 k3 k4 k5 hsb hob f1 f2 f3 e1 e2 hnm hds hq hgv hcd hia
      go_wp2
      refine wp_region_held_drew (S := fun w2 => Up wr w2) (by kernel_rfl) (Up.refl _).drew (fun hS => ?_)
      refine wpAnyH_take (i := 0) (oi := { dst := some 15, op := Go.Op.move (Go.Operand.tmp 0), type := 30, pos := "outright.go:561", after := #[], guard := none }) (v := .slice (some ⟨g4, 0, none⟩) (n + 100) c4) rfl (by kernel_rfl) (by kernel_rfl) (by kernel_rfl) (fun _ _ _ h => h) (Or.inl ⟨by kernel_rfl, ?_⟩) hS ?_
      · intro w5 hSw
        clear hSw hS
        go_simp
      simp only [Act.put, List.setIfInBounds_toArray, List.set_cons_zero, List.set_cons_succ]
      refine wpAnyH_take (i := 1) (oi := { dst := some 16, op := Go.Op.move (Go.Operand.tmp 7), type := 3, pos := "outright.go:561", after := #[], guard := none }) (v := .int .i64 (i : Int)) rfl (by kernel_rfl) (by kernel_rfl) (by kernel_rfl) (fun _ _ _ h => h) (Or.inl ⟨by kernel_rfl, ?_⟩) hS ?_
      · intro w5 hSw
        clear hSw hS
        go_simp
      simp only [Act.put, List.setIfInBounds_toArray, List.set_cons_zero, List.set_cons_succ]
      refine wpAnyH_take (i := 2) (oi := { dst := some 17, op := Go.Op.indexAddr 30 (Go.Operand.tmp 15) (Go.Operand.tmp 16), type := 0, pos := "outright.go:561", after := #[{ on := 0, ground := Go.Ground.data }, { on := 1, ground := Go.Ground.data }], guard := none }) (v := .pointer (some ⟨g4, i * 2, none⟩)) rfl (by kernel_rfl) (by kernel_rfl) (by kernel_rfl) (fun _ _ _ h => h) (Or.inl ⟨by kernel_rfl, ?_⟩) hS ?_
      · intro w5 hSw
        clear hSw hS
        go_simp
      simp only [Act.put, List.setIfInBounds_toArray, List.set_cons_zero, List.set_cons_succ]
      refine wpAnyH_take (i := 3) (oi := { dst := some 18, op := Go.Op.fieldAddr 29 (Go.Operand.tmp 17) 0, type := 0, pos := "outright.go:561", after := #[{ on := 2, ground := Go.Ground.data }], guard := none }) (v := .pointer (some ⟨g4, i * 2, none⟩)) rfl (by kernel_rfl) (by kernel_rfl) (by kernel_rfl) (fun _ _ _ h => h) (Or.inl ⟨by kernel_rfl, ?_⟩) hS ?_
      · intro w5 hSw
        clear hSw hS
        go_simp
      simp only [Act.put, List.setIfInBounds_toArray, List.set_cons_zero, List.set_cons_succ]
      refine wpAnyH_take (i := 4) (oi := { dst := some 19, op := Go.Op.load 9 (Go.Operand.tmp 18), type := 9, pos := "outright.go:561", after := #[{ on := 3, ground := Go.Ground.data }], guard := none }) (v := .string nm) rfl (by kernel_rfl) (by kernel_rfl) (by kernel_rfl) (fun _ _ _ h => h) (Or.inl ⟨by kernel_rfl, ?_⟩) hS ?_
      · intro w5 hSw
        have h0 := hSw.cell HK3.out
        clear hSw hS
        go_simp
      simp only [Act.put, List.setIfInBounds_toArray, List.set_cons_zero, List.set_cons_succ]
      refine wpAnyH_take (i := 5) (oi := { dst := some 20, op := Go.Op.move (Go.Operand.tmp 2), type := 22, pos := "outright.go:561", after := #[], guard := none }) (v := .slice (some ⟨b, off, none⟩) n c) rfl (by kernel_rfl) (by kernel_rfl) (by kernel_rfl) (fun _ _ _ h => h) (Or.inl ⟨by kernel_rfl, ?_⟩) hS ?_
      · intro w5 hSw
        clear hSw hS
        go_simp
      simp only [Act.put, List.setIfInBounds_toArray, List.set_cons_zero, List.set_cons_succ]
      refine wpAnyH_take (i := 6) (oi := { dst := some 21, op := Go.Op.move (Go.Operand.tmp 7), type := 3, pos := "outright.go:561", after := #[], guard := none }) (v := .int .i64 (i : Int)) rfl (by kernel_rfl) (by kernel_rfl) (by kernel_rfl) (fun _ _ _ h => h) (Or.inl ⟨by kernel_rfl, ?_⟩) hS ?_
      · intro w5 hSw
        clear hSw hS
        go_simp
      simp only [Act.put, List.setIfInBounds_toArray, List.set_cons_zero, List.set_cons_succ]
      refine wpAnyH_take (i := 7) (oi := { dst := some 22, op := Go.Op.indexAddr 22 (Go.Operand.tmp 20) (Go.Operand.tmp 21), type := 0, pos := "outright.go:561", after := #[{ on := 5, ground := Go.Ground.data }, { on := 6, ground := Go.Ground.data }], guard := none }) (v := .pointer (some ⟨b, off + i * 2, none⟩)) rfl (by kernel_rfl) (by kernel_rfl) (by kernel_rfl) (fun _ _ _ h => h) (Or.inl ⟨by kernel_rfl, ?_⟩) hS ?_
      · intro w5 hSw
        clear hSw hS
        exact exec_idxLF i hin rfl rfl rfl
      simp only [Act.put, List.setIfInBounds_toArray, List.set_cons_zero, List.set_cons_succ]
      refine wpAnyH_take (i := 8) (oi := { dst := some 23, op := Go.Op.fieldAddr 36 (Go.Operand.tmp 22) 0, type := 0, pos := "outright.go:561", after := #[{ on := 7, ground := Go.Ground.data }], guard := none }) (v := .pointer (some ⟨b, off + i * 2, none⟩)) rfl (by kernel_rfl) (by kernel_rfl) (by kernel_rfl) (fun _ _ _ h => h) (Or.inl ⟨by kernel_rfl, ?_⟩) hS ?_
      · intro w5 hSw
        clear hSw hS
        go_simp
      simp only [Act.put, List.setIfInBounds_toArray, List.set_cons_zero, List.set_cons_succ]
      refine wpAnyH_take (i := 9) (oi := { dst := some 24, op := Go.Op.load 9 (Go.Operand.tmp 23), type := 9, pos := "outright.go:561", after := #[{ on := 8, ground := Go.Ground.data }], guard := none }) (v := .string nm) rfl (by kernel_rfl) (by kernel_rfl) (by kernel_rfl) (fun _ _ _ h => h) (Or.inl ⟨by kernel_rfl, ?_⟩) hS ?_
      · intro w5 hSw
        have h0 := hSw.cell HK1.out
        clear hSw hS
        go_simp
      simp only [Act.put, List.setIfInBounds_toArray, List.set_cons_zero, List.set_cons_succ]
      refine wpAnyH_take (i := 10) (oi := { dst := some 25, op := Go.Op.binOp Go.BinOp.neq 9 (Go.Operand.tmp 19) (Go.Operand.tmp 24) 9, type := 4, pos := "outright.go:561", after := #[{ on := 4, ground := Go.Ground.data }, { on := 9, ground := Go.Ground.data }], guard := none }) (v := .bool false) rfl (by kernel_rfl) (by kernel_rfl) (by kernel_rfl) (fun _ _ _ h => h) (Or.inl ⟨by kernel_rfl, ?_⟩) hS ?_
      · intro w5 hSw
        clear hSw hS
        go_simp
      simp only [Act.put, List.setIfInBounds_toArray, List.set_cons_zero, List.set_cons_succ]
      refine wpAnyH_take (i := 11) (oi := { dst := some 26, op := Go.Op.move (Go.Operand.tmp 25), type := 4, pos := "outright.go:561", after := #[{ on := 10, ground := Go.Ground.data }], guard := none }) (v := .bool false) rfl (by kernel_rfl) (by kernel_rfl) (by kernel_rfl) (fun _ _ _ h => h) (Or.inl ⟨by kernel_rfl, ?_⟩) hS ?_
      · intro w5 hSw
        clear hSw hS
        go_simp
      simp only [Act.put, List.setIfInBounds_toArray, List.set_cons_zero, List.set_cons_succ]
      refine wpAnyH_take (i := 12) (oi := { dst := some 27, op := Go.Op.move (Go.Operand.tmp 0), type := 30, pos := "outright.go:561", after := #[{ on := 11, ground := Go.Ground.guard }], guard := some (11, false) }) (v := .slice (some ⟨g4, 0, none⟩) (n + 100) c4) rfl (by kernel_rfl) (by kernel_rfl) (by kernel_rfl) (fun _ _ _ h => h) (Or.inl ⟨by kernel_rfl, ?_⟩) hS ?_
      · intro w5 hSw
        clear hSw hS
        go_simp
      simp only [Act.put, List.setIfInBounds_toArray, List.set_cons_zero, List.set_cons_succ]
      refine wpAnyH_take (i := 13) (oi := { dst := some 28, op := Go.Op.move (Go.Operand.tmp 7), type := 3, pos := "outright.go:561", after := #[{ on := 11, ground := Go.Ground.guard }], guard := some (11, false) }) (v := .int .i64 (i : Int)) rfl (by kernel_rfl) (by kernel_rfl) (by kernel_rfl) (fun _ _ _ h => h) (Or.inl ⟨by kernel_rfl, ?_⟩) hS ?_
      · intro w5 hSw
        clear hSw hS
        go_simp
      simp only [Act.put, List.setIfInBounds_toArray, List.set_cons_zero, List.set_cons_succ]
      refine wpAnyH_take (i := 14) (oi := { dst := some 29, op := Go.Op.indexAddr 30 (Go.Operand.tmp 27) (Go.Operand.tmp 28), type := 0, pos := "outright.go:561", after := #[{ on := 12, ground := Go.Ground.data }, { on := 13, ground := Go.Ground.data }, { on := 11, ground := Go.Ground.guard }], guard := some (11, false) }) (v := .pointer (some ⟨g4, i * 2, none⟩)) rfl (by kernel_rfl) (by kernel_rfl) (by kernel_rfl) (fun _ _ _ h => h) (Or.inl ⟨by kernel_rfl, ?_⟩) hS ?_
      · intro w5 hSw
        clear hSw hS
        go_simp
      simp only [Act.put, List.setIfInBounds_toArray, List.set_cons_zero, List.set_cons_succ]
      refine wpAnyH_take (i := 15) (oi := { dst := some 30, op := Go.Op.fieldAddr 29 (Go.Operand.tmp 29) 1, type := 0, pos := "outright.go:561", after := #[{ on := 14, ground := Go.Ground.data }, { on := 11, ground := Go.Ground.guard }], guard := some (11, false) }) (v := .pointer (some ⟨g4, i * 2 + 1, none⟩)) rfl (by kernel_rfl) (by kernel_rfl) (by kernel_rfl) (fun _ _ _ h => h) (Or.inl ⟨by kernel_rfl, ?_⟩) hS ?_
      · intro w5 hSw
        clear hSw hS
        go_simp
      simp only [Act.put, List.setIfInBounds_toArray, List.set_cons_zero, List.set_cons_succ]
      refine wpAnyH_take (i := 16) (oi := { dst := some 31, op := Go.Op.load 27 (Go.Operand.tmp 30), type := 27, pos := "outright.go:561", after := #[{ on := 15, ground := Go.Ground.data }, { on := 11, ground := Go.Ground.guard }], guard := some (11, false) }) (v := .slice (some ⟨gi, 0, none⟩) q ci) rfl (by kernel_rfl) (by kernel_rfl) (by kernel_rfl) (fun _ _ _ h => h) (Or.inl ⟨by kernel_rfl, ?_⟩) hS ?_
      · intro w5 hSw
        have h0 := hSw.cell HK4.out
        clear hSw hS
        go_simp
      simp only [Act.put, List.setIfInBounds_toArray, List.set_cons_zero, List.set_cons_succ]
      refine wpAnyH_take (i := 17) (oi := { dst := some 32, op := Go.Op.convert 27 9 (Go.Operand.tmp 31), type := 9, pos := "outright.go:561", after := #[{ on := 16, ground := Go.Ground.data }, { on := 11, ground := Go.Ground.guard }], guard := some (11, false) }) (v := .string ⟨ds.toArray⟩) rfl (by kernel_rfl) (by kernel_rfl) (by kernel_rfl) (fun _ _ _ h => h) (Or.inl ⟨by kernel_rfl, ?_⟩) hS ?_
      · intro w5 hSw
        have h0 := conv_sb2 (HOb.out.up hSw)
        clear hSw hS
        go_simp
      simp only [Act.put, List.setIfInBounds_toArray, List.set_cons_zero, List.set_cons_succ]
      refine wpAnyH_take (i := 18) (oi := { dst := some 33, op := Go.Op.move (Go.Operand.tmp 2), type := 22, pos := "outright.go:561", after := #[{ on := 11, ground := Go.Ground.guard }], guard := some (11, false) }) (v := .slice (some ⟨b, off, none⟩) n c) rfl (by kernel_rfl) (by kernel_rfl) (by kernel_rfl) (fun _ _ _ h => h) (Or.inl ⟨by kernel_rfl, ?_⟩) hS ?_
      · intro w5 hSw
        clear hSw hS
        go_simp
      simp only [Act.put, List.setIfInBounds_toArray, List.set_cons_zero, List.set_cons_succ]
      refine wpAnyH_take (i := 19) (oi := { dst := some 34, op := Go.Op.move (Go.Operand.tmp 7), type := 3, pos := "outright.go:561", after := #[{ on := 11, ground := Go.Ground.guard }], guard := some (11, false) }) (v := .int .i64 (i : Int)) rfl (by kernel_rfl) (by kernel_rfl) (by kernel_rfl) (fun _ _ _ h => h) (Or.inl ⟨by kernel_rfl, ?_⟩) hS ?_
      · intro w5 hSw
        clear hSw hS
        go_simp
      simp only [Act.put, List.setIfInBounds_toArray, List.set_cons_zero, List.set_cons_succ]
      refine wpAnyH_take (i := 20) (oi := { dst := some 35, op := Go.Op.indexAddr 22 (Go.Operand.tmp 33) (Go.Operand.tmp 34), type := 0, pos := "outright.go:561", after := #[{ on := 18, ground := Go.Ground.data }, { on := 19, ground := Go.Ground.data }, { on := 11, ground := Go.Ground.guard }], guard := some (11, false) }) (v := .pointer (some ⟨b, off + i * 2, none⟩)) rfl (by kernel_rfl) (by kernel_rfl) (by kernel_rfl) (fun _ _ _ h => h) (Or.inl ⟨by kernel_rfl, ?_⟩) hS ?_
      · intro w5 hSw
        clear hSw hS
        exact exec_idxLF i hin rfl rfl rfl
      simp only [Act.put, List.setIfInBounds_toArray, List.set_cons_zero, List.set_cons_succ]
      refine wpAnyH_take (i := 21) (oi := { dst := some 36, op := Go.Op.fieldAddr 36 (Go.Operand.tmp 35) 1, type := 0, pos := "outright.go:561", after := #[{ on := 20, ground := Go.Ground.data }, { on := 11, ground := Go.Ground.guard }], guard := some (11, false) }) (v := .pointer (some ⟨b, off + i * 2 + 1, none⟩)) rfl (by kernel_rfl) (by kernel_rfl) (by kernel_rfl) (fun _ _ _ h => h) (Or.inl ⟨by kernel_rfl, ?_⟩) hS ?_
      · intro w5 hSw
        clear hSw hS
        go_simp
      simp only [Act.put, List.setIfInBounds_toArray, List.set_cons_zero, List.set_cons_succ]
      refine wpAnyH_take (i := 22) (oi := { dst := some 37, op := Go.Op.load 27 (Go.Operand.tmp 36), type := 27, pos := "outright.go:561", after := #[{ on := 21, ground := Go.Ground.data }, { on := 11, ground := Go.Ground.guard }], guard := some (11, false) }) (v := .slice ad q cd) rfl (by kernel_rfl) (by kernel_rfl) (by kernel_rfl) (fun _ _ _ h => h) (Or.inl ⟨by kernel_rfl, ?_⟩) hS ?_
      · intro w5 hSw
        have h0 := hSw.cell HK2.out
        clear hSw hS
        go_simp
      simp only [Act.put, List.setIfInBounds_toArray, List.set_cons_zero, List.set_cons_succ]
      refine wpAnyH_take (i := 23) (oi := { dst := some 38, op := Go.Op.convert 27 9 (Go.Operand.tmp 37), type := 9, pos := "outright.go:561", after := #[{ on := 22, ground := Go.Ground.data }, { on := 11, ground := Go.Ground.guard }], guard := some (11, false) }) (v := .string ⟨ds.toArray⟩) rfl (by kernel_rfl) (by kernel_rfl) (by kernel_rfl) (fun _ _ _ h => h) (Or.inl ⟨by kernel_rfl, ?_⟩) hS ?_
      · intro w5 hSw
        have h0 := conv_sb2 (HSb.out.up hSw)
        clear hSw hS
        go_simp
      simp only [Act.put, List.setIfInBounds_toArray, List.set_cons_zero, List.set_cons_succ]
      refine wpAnyH_take (i := 24) (oi := { dst := some 39, op := Go.Op.binOp Go.BinOp.neq 9 (Go.Operand.tmp 32) (Go.Operand.tmp 38) 9, type := 4, pos := "outright.go:561", after := #[{ on := 17, ground := Go.Ground.data }, { on := 23, ground := Go.Ground.data }, { on := 11, ground := Go.Ground.guard }], guard := some (11, false) }) (v := .bool false) rfl (by kernel_rfl) (by kernel_rfl) (by kernel_rfl) (fun _ _ _ h => h) (Or.inl ⟨by kernel_rfl, ?_⟩) hS ?_
      · intro w5 hSw
        clear hSw hS
        go_simp
      simp only [Act.put, List.setIfInBounds_toArray, List.set_cons_zero, List.set_cons_succ]
      refine wpAnyH_take (i := 25) (oi := { dst := some 40, op := Go.Op.pick (Go.Operand.tmp 26) (Go.Operand.const (Go.Value.bool true)) (Go.Operand.tmp 39), type := 4, pos := "outright.go:561", after := #[{ on := 11, ground := Go.Ground.data }, { on := 24, ground := Go.Ground.data }], guard := none }) (v := .bool false) rfl (by kernel_rfl) (by kernel_rfl) (by kernel_rfl) (fun _ _ _ h => h) (Or.inl ⟨by kernel_rfl, ?_⟩) hS ?_
      · intro w5 hSw
        clear hSw hS
        go_simp
      simp only [Act.put, List.setIfInBounds_toArray, List.set_cons_zero, List.set_cons_succ]
      refine wpAnyH_take (i := 26) (oi := { dst := some 41, op := Go.Op.move (Go.Operand.tmp 40), type := 4, pos := "outright.go:561", after := #[{ on := 25, ground := Go.Ground.data }, { on := 11, ground := Go.Ground.chain }], guard := none }) (v := .bool false) rfl (by kernel_rfl) (by kernel_rfl) (by kernel_rfl) (fun _ _ _ h => h) (Or.inl ⟨by kernel_rfl, ?_⟩) hS ?_
      · intro w5 hSw
        clear hSw hS
        go_simp
      simp only [Act.put, List.setIfInBounds_toArray, List.set_cons_zero, List.set_cons_succ]
      refine wpAnyH_take (i := 27) (oi := { dst := some 42, op := Go.Op.move (Go.Operand.tmp 1), type := 32, pos := "outright.go:561", after := #[{ on := 26, ground := Go.Ground.guard }], guard := some (26, false) }) (v := .slice (some ⟨g5, 0, none⟩) n c5) rfl (by kernel_rfl) (by kernel_rfl) (by kernel_rfl) (fun _ _ _ h => h) (Or.inl ⟨by kernel_rfl, ?_⟩) hS ?_
      · intro w5 hSw
        clear hSw hS
        go_simp
      simp only [Act.put, List.setIfInBounds_toArray, List.set_cons_zero, List.set_cons_succ]
      refine wpAnyH_take (i := 28) (oi := { dst := some 43, op := Go.Op.move (Go.Operand.tmp 7), type := 3, pos := "outright.go:561", after := #[{ on := 26, ground := Go.Ground.guard }], guard := some (26, false) }) (v := .int .i64 (i : Int)) rfl (by kernel_rfl) (by kernel_rfl) (by kernel_rfl) (fun _ _ _ h => h) (Or.inl ⟨by kernel_rfl, ?_⟩) hS ?_
      · intro w5 hSw
        clear hSw hS
        go_simp
      simp only [Act.put, List.setIfInBounds_toArray, List.set_cons_zero, List.set_cons_succ]
      refine wpAnyH_take (i := 29) (oi := { dst := some 44, op := Go.Op.indexAddr 32 (Go.Operand.tmp 42) (Go.Operand.tmp 43), type := 0, pos := "outright.go:561", after := #[{ on := 27, ground := Go.Ground.data }, { on := 28, ground := Go.Ground.data }, { on := 26, ground := Go.Ground.guard }], guard := some (26, false) }) (v := .pointer (some ⟨g5, i, none⟩)) rfl (by kernel_rfl) (by kernel_rfl) (by kernel_rfl) (fun _ _ _ h => h) (Or.inl ⟨by kernel_rfl, ?_⟩) hS ?_
      · intro w5 hSw
        clear hSw hS
        go_simp
      simp only [Act.put, List.setIfInBounds_toArray, List.set_cons_zero, List.set_cons_succ]
      refine wpAnyH_take (i := 30) (oi := { dst := some 45, op := Go.Op.load 27 (Go.Operand.tmp 44), type := 27, pos := "outright.go:561", after := #[{ on := 29, ground := Go.Ground.data }, { on := 26, ground := Go.Ground.guard }], guard := some (26, false) }) (v := .slice (some ⟨gi, 0, none⟩) (q + 300) ci) rfl (by kernel_rfl) (by kernel_rfl) (by kernel_rfl) (fun _ _ _ h => h) (Or.inl ⟨by kernel_rfl, ?_⟩) hS ?_
      · intro w5 hSw
        have h0 := hSw.cell HK5.out
        clear hSw hS
        go_simp
      simp only [Act.put, List.setIfInBounds_toArray, List.set_cons_zero, List.set_cons_succ]
      refine wpAnyH_take (i := 31) (oi := { dst := some 46, op := Go.Op.move (Go.Operand.tmp 2), type := 22, pos := "outright.go:561", after := #[{ on := 26, ground := Go.Ground.guard }], guard := some (26, false) }) (v := .slice (some ⟨b, off, none⟩) n c) rfl (by kernel_rfl) (by kernel_rfl) (by kernel_rfl) (fun _ _ _ h => h) (Or.inl ⟨by kernel_rfl, ?_⟩) hS ?_
      · intro w5 hSw
        clear hSw hS
        go_simp
      simp only [Act.put, List.setIfInBounds_toArray, List.set_cons_zero, List.set_cons_succ]
      refine wpAnyH_take (i := 32) (oi := { dst := some 47, op := Go.Op.move (Go.Operand.tmp 7), type := 3, pos := "outright.go:561", after := #[{ on := 26, ground := Go.Ground.guard }], guard := some (26, false) }) (v := .int .i64 (i : Int)) rfl (by kernel_rfl) (by kernel_rfl) (by kernel_rfl) (fun _ _ _ h => h) (Or.inl ⟨by kernel_rfl, ?_⟩) hS ?_
      · intro w5 hSw
        clear hSw hS
        go_simp
      simp only [Act.put, List.setIfInBounds_toArray, List.set_cons_zero, List.set_cons_succ]
      refine wpAnyH_take (i := 33) (oi := { dst := some 48, op := Go.Op.indexAddr 22 (Go.Operand.tmp 46) (Go.Operand.tmp 47), type := 0, pos := "outright.go:561", after := #[{ on := 31, ground := Go.Ground.data }, { on := 32, ground := Go.Ground.data }, { on := 26, ground := Go.Ground.guard }], guard := some (26, false) }) (v := .pointer (some ⟨b, off + i * 2, none⟩)) rfl (by kernel_rfl) (by kernel_rfl) (by kernel_rfl) (fun _ _ _ h => h) (Or.inl ⟨by kernel_rfl, ?_⟩) hS ?_
      · intro w5 hSw
        clear hSw hS
        exact exec_idxLF i hin rfl rfl rfl
      simp only [Act.put, List.setIfInBounds_toArray, List.set_cons_zero, List.set_cons_succ]
      refine wpAnyH_take (i := 34) (oi := { dst := some 49, op := Go.Op.fieldAddr 36 (Go.Operand.tmp 48) 1, type := 0, pos := "outright.go:561", after := #[{ on := 33, ground := Go.Ground.data }, { on := 26, ground := Go.Ground.guard }], guard := some (26, false) }) (v := .pointer (some ⟨b, off + i * 2 + 1, none⟩)) rfl (by kernel_rfl) (by kernel_rfl) (by kernel_rfl) (fun _ _ _ h => h) (Or.inl ⟨by kernel_rfl, ?_⟩) hS ?_
      · intro w5 hSw
        clear hSw hS
        go_simp
      simp only [Act.put, List.setIfInBounds_toArray, List.set_cons_zero, List.set_cons_succ]
      refine wpAnyH_take (i := 35) (oi := { dst := some 50, op := Go.Op.load 27 (Go.Operand.tmp 49), type := 27, pos := "outright.go:561", after := #[{ on := 34, ground := Go.Ground.data }, { on := 26, ground := Go.Ground.guard }], guard := some (26, false) }) (v := .slice ad q cd) rfl (by kernel_rfl) (by kernel_rfl) (by kernel_rfl) (fun _ _ _ h => h) (Or.inl ⟨by kernel_rfl, ?_⟩) hS ?_
      · intro w5 hSw
        have h0 := hSw.cell HK2.out
        clear hSw hS
        go_simp
      simp only [Act.put, List.setIfInBounds_toArray, List.set_cons_zero, List.set_cons_succ]
      refine wpAnyH_take (i := 36) (oi := { dst := some 51, op := Go.Op.convert 27 9 (Go.Operand.tmp 50), type := 9, pos := "outright.go:561", after := #[{ on := 35, ground := Go.Ground.data }, { on := 26, ground := Go.Ground.guard }], guard := some (26, false) }) (v := .string ⟨ds.toArray⟩) rfl (by kernel_rfl) (by kernel_rfl) (by kernel_rfl) (fun _ _ _ h => h) (Or.inl ⟨by kernel_rfl, ?_⟩) hS ?_
      · intro w5 hSw
        have h0 := conv_sb2 (HSb.out.up hSw)
        clear hSw hS
        go_simp
      simp only [Act.put, List.setIfInBounds_toArray, List.set_cons_zero, List.set_cons_succ]
      refine wpAnyH_ready (rs := [37]) (by kernel_rfl) (by simp) ?_
      refine AllReadyH.cons (o := { dst := some 52, op := Go.Op.call { callee := Go.Callee.value (Go.Operand.func 19), args := #[Go.Operand.tmp 45, Go.Operand.tmp 51], argTypes := #[27, 9] }, type := 4, pos := "outright.go:561", after := #[{ on := 30, ground := Go.Ground.data }, { on := 36, ground := Go.Ground.data }, { on := 26, ground := Go.Ground.chain }, { on := 26, ground := Go.Ground.guard }], guard := some (26, false) }) rfl (fun K hK => ?_) AllReadyH.nil
      rw [if_pos (by kernel_rfl)]
      go_simp
      refine (spared_gen _ ds _ (HWd.out.up hS) (by rw [HHq.out]; omega)).mono ?_
      rintro e2 w5 ⟨rfl, h5⟩
      have HU5 := Hid.of (show Up wr w5 by rw [h5]; exact hS)
      clear h5
      dsimp only
      refine hK.out _ _ HU5.out (fun hS => ?_)
      clear hK K
      refine wpAnyH_take (i := 38) (oi := { dst := some 53, op := Go.Op.unOp Go.UnOp.not 4 (Go.Operand.tmp 52), type := 4, pos := "outright.go:561", after := #[{ on := 37, ground := Go.Ground.data }, { on := 26, ground := Go.Ground.guard }], guard := some (26, false) }) (v := .bool false) rfl (by kernel_rfl) (by kernel_rfl) (by kernel_rfl) (fun _ _ _ h => h) (Or.inl ⟨by kernel_rfl, ?_⟩) hS ?_
      · intro w5 hSw
        clear hSw hS
        go_simp
      simp only [Act.put, List.setIfInBounds_toArray, List.set_cons_zero, List.set_cons_succ]
      refine wpAnyH_take (i := 39) (oi := { dst := some 54, op := Go.Op.pick (Go.Operand.tmp 41) (Go.Operand.const (Go.Value.bool true)) (Go.Operand.tmp 53), type := 4, pos := "outright.go:561", after := #[{ on := 26, ground := Go.Ground.data }, { on := 38, ground := Go.Ground.data }], guard := none }) (v := .bool false) rfl (by kernel_rfl) (by kernel_rfl) (by kernel_rfl) (fun _ _ _ h => h) (Or.inl ⟨by kernel_rfl, ?_⟩) hS ?_
      · intro w5 hSw
        clear hSw hS
        go_simp
      simp only [Act.put, List.setIfInBounds_toArray, List.set_cons_zero, List.set_cons_succ]
      have HSZ := Hid.of hS
      clear hS
      refine wpAnyH_done (by kernel_rfl) ?_ _
      go_wp2
      go_roundw
      all_goals first
        | exact ⟨i + 1, by go_num, by omega, Hid.of (HQ.out.trans HSZ.out)⟩
        | (simp [intOf]; omega)
    · have hie : n = i := by omega
      have hz : ¬ (i : Int) < (i : Int) := by omega
      subst hie
      go_wp2
      go_loopw [8] (fun v8 wr => ∃ i : Nat, v8 = .int .i64 (i : Int) ∧ n ≤ i ∧ i ≤ n + 100 ∧ Hid (Up w wr)) (fun v8 _ => n + 100 - (intOf v8).toNat)
      case atStart => exact ⟨n, rfl, by omega, by omega, HQ⟩
      case round =>
        clear HQ
        obtain ⟨i, rfl, hi1, hi2, hQ⟩ := hrel
        have HQ := Hid.of hQ.out
        clear hQ
        by_cases hin : i < n + 100
        · have hz : (i : Int) < (n : Int) + 100 := by omega
          have hia : i < (fs ++ List.replicate 100 hsh).length := by rw [List.length_append, HL.out.fl, List.length_replicate]; omega
          obtain ⟨g4, hg4, _, k3, k4, _⟩ := HL.out.out.some hia
          have he : (fs ++ List.replicate 100 hsh)[i] = hsh := by
            rw [List.getElem_append_right (by rw [HL.out.fl]; exact hi1), List.getElem_replicate]
          rw [he] at k3 k4
          subst hg4
          have k3' : wr.cell? ⟨g4, i * 2, none⟩ = some (.string ⟨#[35, 35]⟩) := HQ.out.cell k3
          have k4' : wr.cell? ⟨g4, i * 2 + 1, none⟩ = some (.slice none 0 0) := HQ.out.cell k4
          clear k3 k4 he hia
          go_wp2
          go_roundw
          all_goals first
            | exact ⟨i + 1, by go_num, by omega, by omega, HQ⟩
            | (simp [intOf]; omega)
        · have hie : i = n + 100 := by omega
          subst hie
          have hz : ¬ ((n : Int) + 100) < (n : Int) + 100 := by omega
          go_wp2
          go_ret
          exact ⟨rfl, HQ.out⟩
end Go.Proofs.YtaibjeehjhlicaaDoor
