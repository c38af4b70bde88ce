import Derived.Test.YtdlfkdehfenemaaJe
namespace Go.Proofs.Ytdlfkdehfenemaa
open Go.RowKit Go.Conc TextNum
theorem NF.facts {w : World} {lo hi : Nat} {S : NS} {n : Nat} {fs : List (Int × Int)} (h : NF w lo hi S n fs) (h1 : 1 ≤ n) : (∃ l, S.ls[n - 1]? = some l ∧ l.ms.length = 0) ∧ isL S (n : Int) = false ∧ S.now = 0 := by
  have hl : S.ls.length = n := by
    have e := congrArg (fun a => a.ls.length) h.ab
    simpa [abs] using e
  refine ⟨?_, ?_, ?_⟩
  · obtain ⟨l, e1, _, e3⟩ := abs_get h.ab (i := n - 1) (x := ([], false)) (by show (List.replicate n ([], false))[n - 1]? = _; rw [List.getElem?_replicate, if_pos (by omega)])
    exact ⟨l, e1, by simpa using e3⟩
  · simp [isL]; omega
  · exact congrArg (fun a => a.now) h.ab
set_option maxRecDepth 100000 in
set_option maxHeartbeats 4000000 in
theorem LaneNews_walk (w : World) (z : Int) (v : Value) (fs : List (Int × Int)) (h : FR w v fs) (hl : fs.length * 16 ≤ 140737488351232) :
    Calls Try.prog 4 #[.agg #[.int .i64 z, v]] w fun e w' => e = .returned (.bool true) ∧ Up w w' := by
  obtain ⟨s0, c0, rfl, _, _⟩ := id h
  have HF := Hid.of h
  obtain ⟨n0, hn0⟩ : ∃ n, fs.length = n := ⟨_, rfl⟩
  rw [hn0] at HF ⊢
  have HL := Hid.of hl
  clear h hl hn0
  have HU1 := Hid.of ((Up.refl w).alloc (.cells #[.int .i64 z, .slice s0 n0 c0] 30))
  have HA1 := Hid.of (at_new w 30 [.int .i64 z, .slice s0 n0 c0])
  go_enter Try.func4, Try.ntmps4
  go_wp2_with (with_reducible show wpList _ _ _ ({ dst := _, op := Op.load 30 _, type := _, pos := _, after := _, guard := _ } :: _) _ _; refine Shut.out ?_)
  show wpList _ _ _ _ _ _
  generalize w.alloc (.cells #[.int .i64 z, .slice s0 n0 c0] 30) = W1 at *
  generalize w.heap.size = xb at *
  refine wpList_load_mid rfl 30 _ rfl xb 0 rfl [.int .i64 z, .slice s0 n0 c0] _ HA1.out.range Try.underlying30 rfl (by kernel_rfl) ?_
  simp only [Act.put, List.setIfInBounds_toArray, List.set_cons_zero, List.set_cons_succ]
  have hBg := begin_walk W1 z 1 (.slice s0 n0 c0) (.slice none 0 0) fs [] (HF.out.up HU1.out) ⟨none, 0, rfl, Nat.le_refl _, fun j hj => by cases hj⟩ HL.out (by simp)
  go_wp2_with fail
  refine hBg.mono ?_
  rintro e w2 ⟨pb, rfl, hBE⟩
  obtain ⟨bb, tb, ts, a, r, on, lo, hi, a', r', on', lo', hi', hB, hO, hO', _⟩ := hBE
  have HB := Hid.of hB
  have HU2 := Hid.of (HU1.out.trans hB.up)
  obtain rfl : on' = true := by
    rcases hO' with ⟨_, h, _⟩ | ⟨h, _⟩
    · exact (h (by simp [newE, fateE])).elim
    · exact h
  have q1 := HB.out.p.cell (i := 5) rfl
  have q0 := HB.out.p.cell (i := 4) rfl
  clear hBg hO' hB
  dsimp only
  rcases hO with ⟨rfl, _, rfl, rfl⟩ | ⟨rfl, S, n, rb, fv, wv, sv, hz, h1, h2, rfl, rfl, hN, _⟩
  · go_wp2
    go_ret
    exact ⟨rfl, HU2.out⟩
  · obtain ⟨⟨l, hl, hm⟩, hno, hnow⟩ := hN.facts h1
    have hW1 := Waiting_yes w2.drew S (n - 1) l (hN.ok.up (Up.refl w2).drew) hl
    rw [hm, show ((n - 1 : Nat) : Int) = z - 1 by omega] at hW1
    have hW2 := Waiting_no w2.drew.drew S z (hN.ok.up (Up.refl w2).drew.drew) (by rw [hz]; exact hno)
    have hNw := Now_walk w2.drew.drew S (hN.ok.up (Up.refl w2).drew.drew)
    rw [hnow] at hNw
    have hsub : IntKind.i64.wrap (z - 1) = z - 1 := by rw [IntKind.wrap_i64]; omega
    have HCA := Hid.of (HB.out.p.cell (i := 0) rfl)
    have HCX := Hid.of ((HA1.out.up HB.out.up).cell (i := 0) rfl)
    generalize S.nb = nb at *
    have HW1 := Hid.of hW1
    have HW2 := Hid.of hW2
    clear hW1 hW2 hl hm hno hnow hN h1 h2 hz
    go_wp2_with fail
    refine wp_region_held_drew (S := fun x => Up w2 x) (by kernel_rfl) (Up.refl w2).drew (fun hS => ?_)
    refine wpAnyH_take (i := 0) (oi := { dst := some 32, op := Go.Op.move (Go.Operand.tmp 3), type := 31, pos := "law.go:267", after := #[], guard := none }) (v := .pointer (some ⟨pb, 0, none⟩)) rfl (by kernel_rfl) (by kernel_rfl) (by kernel_rfl) (fun _ _ _ h => h) (Or.inl ⟨by kernel_rfl, ?_⟩) hS ?_
    · intro w5 hSw
      clear hSw hS
      go_simp
    simp only [Act.put, List.setIfInBounds_toArray, List.set_cons_zero, List.set_cons_succ]
    refine wpAnyH_take (i := 1) (oi := { dst := some 33, op := Go.Op.nilCheck (Go.Operand.tmp 32), type := 0, pos := "law.go:267", after := #[{ on := 0, ground := Go.Ground.data }], guard := none }) (v := .pointer (some ⟨pb, 0, none⟩)) rfl (by kernel_rfl) (by kernel_rfl) (by kernel_rfl) (fun _ _ _ h => h) (Or.inl ⟨by kernel_rfl, ?_⟩) hS ?_
    · intro w5 hSw
      clear hSw hS
      go_simp
    simp only [Act.put, List.setIfInBounds_toArray, List.set_cons_zero, List.set_cons_succ]
    refine wpAnyH_take (i := 2) (oi := { dst := some 34, op := Go.Op.fieldAddr 40 (Go.Operand.tmp 33) 0, type := 0, pos := "law.go:267", after := #[{ on := 1, ground := Go.Ground.data }], guard := none }) (v := .pointer (some ⟨pb, 0, none⟩)) rfl (by kernel_rfl) (by kernel_rfl) (by kernel_rfl) (fun _ _ _ h => h) (Or.inl ⟨by kernel_rfl, ?_⟩) hS ?_
    · intro w5 hSw
      clear hSw hS
      go_simp
    simp only [Act.put, List.setIfInBounds_toArray, List.set_cons_zero, List.set_cons_succ]
    refine wpAnyH_take (i := 3) (oi := { dst := some 35, op := Go.Op.indexAddr 34 (Go.Operand.tmp 34) (Go.Operand.const (Go.Value.int Go.IntKind.i64 0)), type := 0, pos := "law.go:267", after := #[{ on := 2, ground := Go.Ground.data }], guard := none }) (v := .pointer (some ⟨pb, 0, none⟩)) rfl (by kernel_rfl) (by kernel_rfl) (by kernel_rfl) (fun _ _ _ h => h) (Or.inl ⟨by kernel_rfl, ?_⟩) hS ?_
    · intro w5 hSw
      clear hSw hS
      go_simp
    simp only [Act.put, List.setIfInBounds_toArray, List.set_cons_zero, List.set_cons_succ]
    refine wpAnyH_take (i := 4) (oi := { dst := some 36, op := Go.Op.load 22 (Go.Operand.tmp 35), type := 22, pos := "law.go:267", after := #[{ on := 3, ground := Go.Ground.data }], guard := none }) (v := .pointer (some ⟨nb, 0, none⟩)) rfl (by kernel_rfl) (by kernel_rfl) (by kernel_rfl) (fun _ _ _ h => h) (Or.inl ⟨by kernel_rfl, ?_⟩) hS ?_
    · intro w5 hSw
      have hc := hSw.cell HCA.out
      clear hSw hS
      go_simp
    simp only [Act.put, List.setIfInBounds_toArray, List.set_cons_zero, List.set_cons_succ]
    refine wpAnyH_take (i := 5) (oi := { dst := some 37, op := Go.Op.fieldAddr 30 (Go.Operand.tmp 1) 0, type := 0, pos := "law.go:267", after := #[], guard := none }) (v := .pointer (some ⟨xb, 0, none⟩)) rfl (by kernel_rfl) (by kernel_rfl) (by kernel_rfl) (fun _ _ _ h => h) (Or.inl ⟨by kernel_rfl, ?_⟩) hS ?_
    · intro w5 hSw
      clear hSw hS
      go_simp
    simp only [Act.put, List.setIfInBounds_toArray, List.set_cons_zero, List.set_cons_succ]
    refine wpAnyH_take (i := 6) (oi := { dst := some 38, op := Go.Op.load 3 (Go.Operand.tmp 37), type := 3, pos := "law.go:267", after := #[{ on := 5, ground := Go.Ground.data }], guard := none }) (v := .int .i64 z) rfl (by kernel_rfl) (by kernel_rfl) (by kernel_rfl) (fun _ _ _ h => h) (Or.inl ⟨by kernel_rfl, ?_⟩) hS ?_
    · intro w5 hSw
      have hc := hSw.cell HCX.out
      clear hSw hS
      go_simp
    simp only [Act.put, List.setIfInBounds_toArray, List.set_cons_zero, List.set_cons_succ]
    refine wpAnyH_take (i := 7) (oi := { dst := some 39, op := Go.Op.binOp Go.BinOp.sub 3 (Go.Operand.tmp 38) (Go.Operand.const (Go.Value.int Go.IntKind.i64 1)) 3, type := 3, pos := "law.go:267", after := #[{ on := 6, ground := Go.Ground.data }], guard := none }) (v := .int .i64 (z - 1)) rfl (by kernel_rfl) (by kernel_rfl) (by kernel_rfl) (fun _ _ _ h => h) (Or.inl ⟨by kernel_rfl, ?_⟩) hS ?_
    · intro w5 hSw
      clear hSw hS
      go_simp
    simp only [Act.put, List.setIfInBounds_toArray, List.set_cons_zero, List.set_cons_succ]
    refine wpAnyH_ready (rs := [8]) (by kernel_rfl) (by simp) ?_
    refine AllReadyH.cons (o := { dst := some 40, op := Go.Op.call { callee := Go.Callee.value (Go.Operand.func 15), args := #[Go.Operand.tmp 36, Go.Operand.tmp 39], argTypes := #[22, 3] }, type := 41, pos := "law.go:267", after := #[{ on := 4, ground := Go.Ground.data }, { on := 7, ground := Go.Ground.data }], guard := none }) rfl (fun K hK => ?_) AllReadyH.nil
    rw [if_pos (by kernel_rfl)]
    go_simp
    refine HW1.out.mono ?_
    rintro e w5 ⟨rfl, h5⟩
    obtain rfl := h5.symm
    clear h5
    dsimp only
    refine hK.out _ _ hS (fun hS2 => ?_)
    clear hK K hS
    have hS := hS2
    clear hS2
    refine wpAnyH_take (i := 9) (oi := { dst := some 31, op := Go.Op.move (Go.Operand.tmp 40), type := 41, pos := "law.go:267", after := #[{ on := 8, ground := Go.Ground.data }], guard := none }) (v := .tuple #[.int .i64 0, .int .i64 0]) rfl (by kernel_rfl) (by kernel_rfl) (by kernel_rfl) (fun _ _ _ h => h) (Or.inl ⟨by kernel_rfl, ?_⟩) hS ?_
    · intro w5 hSw
      clear hSw hS
      go_simp
    simp only [Act.put, List.setIfInBounds_toArray, List.set_cons_zero, List.set_cons_succ]
    refine wpAnyH_take (i := 10) (oi := { dst := some 41, op := Go.Op.extract (Go.Operand.tmp 31) 0, type := 3, pos := "law.go:267", after := #[{ on := 9, ground := Go.Ground.data }], guard := none }) (v := .int .i64 0) rfl (by kernel_rfl) (by kernel_rfl) (by kernel_rfl) (fun _ _ _ h => h) (Or.inl ⟨by kernel_rfl, ?_⟩) hS ?_
    · intro w5 hSw
      clear hSw hS
      go_simp
    simp only [Act.put, List.setIfInBounds_toArray, List.set_cons_zero, List.set_cons_succ]
    refine wpAnyH_take (i := 11) (oi := { dst := some 42, op := Go.Op.extract (Go.Operand.tmp 31) 1, type := 23, pos := "law.go:267", after := #[{ on := 9, ground := Go.Ground.data }, { on := 12, ground := Go.Ground.gcOnly Go.Departure.lateStores }], guard := none }) (v := .int .i64 0) rfl (by kernel_rfl) (by kernel_rfl) (by kernel_rfl) (fun _ _ _ h => h) (Or.inl ⟨by kernel_rfl, ?_⟩) hS ?_
    · intro w5 hSw
      clear hSw hS
      go_simp
    simp only [Act.put, List.setIfInBounds_toArray, List.set_cons_zero, List.set_cons_succ]
    refine wpAnyH_ready (rs := [12]) (by kernel_rfl) (by simp) ?_
    refine AllReadyH.cons (o := { dst := some 5, op := Go.Op.assign (Go.Operand.tmp 41), type := 3, pos := "law.go:267", after := #[{ on := 10, ground := Go.Ground.data }, { on := 8, ground := Go.Ground.chain }, { on := 0, ground := Go.Ground.phase }, { on := 1, ground := Go.Ground.phase }, { on := 2, ground := Go.Ground.phase }, { on := 3, ground := Go.Ground.phase }, { on := 4, ground := Go.Ground.phase }, { on := 5, ground := Go.Ground.phase }, { on := 6, ground := Go.Ground.phase }, { on := 7, ground := Go.Ground.phase }, { on := 8, ground := Go.Ground.phase }, { on := 9, ground := Go.Ground.phase }, { on := 10, ground := Go.Ground.phase }, { on := 11, ground := Go.Ground.textOnly Go.Departure.lateStores }], guard := none }) rfl (fun K hK => ?_) AllReadyH.nil
    rw [if_pos (by kernel_rfl)]
    go_simp
    refine hK.out _ _ hS (fun hS2 => ?_)
    clear hK K hS
    have hS := hS2
    clear hS2
    refine wpAnyH_ready (rs := [13]) (by kernel_rfl) (by simp) ?_
    refine AllReadyH.cons (o := { dst := some 6, op := Go.Op.assign (Go.Operand.tmp 42), type := 23, pos := "law.go:267", after := #[{ on := 11, ground := Go.Ground.data }, { on := 12, ground := Go.Ground.chain }, { on := 0, ground := Go.Ground.phase }, { on := 1, ground := Go.Ground.phase }, { on := 2, ground := Go.Ground.phase }, { on := 3, ground := Go.Ground.phase }, { on := 4, ground := Go.Ground.phase }, { on := 5, ground := Go.Ground.phase }, { on := 6, ground := Go.Ground.phase }, { on := 7, ground := Go.Ground.phase }, { on := 8, ground := Go.Ground.phase }, { on := 9, ground := Go.Ground.phase }, { on := 10, ground := Go.Ground.phase }, { on := 11, ground := Go.Ground.phase }, { on := 12, ground := Go.Ground.phase }], guard := none }) rfl (fun K hK => ?_) AllReadyH.nil
    rw [if_pos (by kernel_rfl)]
    go_simp
    refine hK.out _ _ hS (fun hS2 => ?_)
    clear hK K hS hS2
    refine wpAnyH_done (by kernel_rfl) ?_ _
    have HU3 := Hid.of ((Up.refl w2).drew)
    generalize w2.drew = w3 at *
    have HCA3 := Hid.of (HU3.out.cell HCA.out)
    have HCX3 := Hid.of (HU3.out.cell HCX.out)
    clear HCA HCX q0 q1 HW1
    go_wp2_with fail
    refine wp_region_held_drew (S := fun x => Up w3 x) (by kernel_rfl) (Up.refl w3).drew (fun hS => ?_)
    refine wpAnyH_take (i := 0) (oi := { dst := some 44, op := Go.Op.move (Go.Operand.tmp 3), type := 31, pos := "law.go:268", after := #[], guard := none }) (v := .pointer (some ⟨pb, 0, none⟩)) rfl (by kernel_rfl) (by kernel_rfl) (by kernel_rfl) (fun _ _ _ h => h) (Or.inl ⟨by kernel_rfl, ?_⟩) hS ?_
    · intro w5 hSw
      clear hSw hS
      go_simp
    simp only [Act.put, List.setIfInBounds_toArray, List.set_cons_zero, List.set_cons_succ]
    refine wpAnyH_take (i := 1) (oi := { dst := some 45, op := Go.Op.nilCheck (Go.Operand.tmp 44), type := 0, pos := "law.go:268", after := #[{ on := 0, ground := Go.Ground.data }], guard := none }) (v := .pointer (some ⟨pb, 0, none⟩)) rfl (by kernel_rfl) (by kernel_rfl) (by kernel_rfl) (fun _ _ _ h => h) (Or.inl ⟨by kernel_rfl, ?_⟩) hS ?_
    · intro w5 hSw
      clear hSw hS
      go_simp
    simp only [Act.put, List.setIfInBounds_toArray, List.set_cons_zero, List.set_cons_succ]
    refine wpAnyH_take (i := 2) (oi := { dst := some 46, op := Go.Op.fieldAddr 40 (Go.Operand.tmp 45) 0, type := 0, pos := "law.go:268", after := #[{ on := 1, ground := Go.Ground.data }], guard := none }) (v := .pointer (some ⟨pb, 0, none⟩)) rfl (by kernel_rfl) (by kernel_rfl) (by kernel_rfl) (fun _ _ _ h => h) (Or.inl ⟨by kernel_rfl, ?_⟩) hS ?_
    · intro w5 hSw
      clear hSw hS
      go_simp
    simp only [Act.put, List.setIfInBounds_toArray, List.set_cons_zero, List.set_cons_succ]
    refine wpAnyH_take (i := 3) (oi := { dst := some 47, op := Go.Op.indexAddr 34 (Go.Operand.tmp 46) (Go.Operand.const (Go.Value.int Go.IntKind.i64 0)), type := 0, pos := "law.go:268", after := #[{ on := 2, ground := Go.Ground.data }], guard := none }) (v := .pointer (some ⟨pb, 0, none⟩)) rfl (by kernel_rfl) (by kernel_rfl) (by kernel_rfl) (fun _ _ _ h => h) (Or.inl ⟨by kernel_rfl, ?_⟩) hS ?_
    · intro w5 hSw
      clear hSw hS
      go_simp
    simp only [Act.put, List.setIfInBounds_toArray, List.set_cons_zero, List.set_cons_succ]
    refine wpAnyH_take (i := 4) (oi := { dst := some 48, op := Go.Op.load 22 (Go.Operand.tmp 47), type := 22, pos := "law.go:268", after := #[{ on := 3, ground := Go.Ground.data }], guard := none }) (v := .pointer (some ⟨nb, 0, none⟩)) rfl (by kernel_rfl) (by kernel_rfl) (by kernel_rfl) (fun _ _ _ h => h) (Or.inl ⟨by kernel_rfl, ?_⟩) hS ?_
    · intro w5 hSw
      have hc := hSw.cell HCA3.out
      clear hSw hS
      go_simp
    simp only [Act.put, List.setIfInBounds_toArray, List.set_cons_zero, List.set_cons_succ]
    refine wpAnyH_take (i := 5) (oi := { dst := some 49, op := Go.Op.fieldAddr 30 (Go.Operand.tmp 1) 0, type := 0, pos := "law.go:268", after := #[], guard := none }) (v := .pointer (some ⟨xb, 0, none⟩)) rfl (by kernel_rfl) (by kernel_rfl) (by kernel_rfl) (fun _ _ _ h => h) (Or.inl ⟨by kernel_rfl, ?_⟩) hS ?_
    · intro w5 hSw
      clear hSw hS
      go_simp
    simp only [Act.put, List.setIfInBounds_toArray, List.set_cons_zero, List.set_cons_succ]
    refine wpAnyH_take (i := 6) (oi := { dst := some 50, op := Go.Op.load 3 (Go.Operand.tmp 49), type := 3, pos := "law.go:268", after := #[{ on := 5, ground := Go.Ground.data }], guard := none }) (v := .int .i64 z) rfl (by kernel_rfl) (by kernel_rfl) (by kernel_rfl) (fun _ _ _ h => h) (Or.inl ⟨by kernel_rfl, ?_⟩) hS ?_
    · intro w5 hSw
      have hc := hSw.cell HCX3.out
      clear hSw hS
      go_simp
    simp only [Act.put, List.setIfInBounds_toArray, List.set_cons_zero, List.set_cons_succ]
    refine wpAnyH_ready (rs := [7]) (by kernel_rfl) (by simp) ?_
    refine AllReadyH.cons (o := { dst := some 51, op := Go.Op.call { callee := Go.Callee.value (Go.Operand.func 15), args := #[Go.Operand.tmp 48, Go.Operand.tmp 50], argTypes := #[22, 3] }, type := 41, pos := "law.go:268", after := #[{ on := 4, ground := Go.Ground.data }, { on := 6, ground := Go.Ground.data }], guard := none }) rfl (fun K hK => ?_) AllReadyH.nil
    rw [if_pos (by kernel_rfl)]
    go_simp
    refine HW2.out.mono ?_
    rintro e w5 ⟨rfl, h5⟩
    obtain rfl := h5.symm
    clear h5
    dsimp only
    refine hK.out _ _ hS (fun hS2 => ?_)
    clear hK K hS
    have hS := hS2
    clear hS2
    refine wpAnyH_take (i := 8) (oi := { dst := some 43, op := Go.Op.move (Go.Operand.tmp 51), type := 41, pos := "law.go:268", after := #[{ on := 7, ground := Go.Ground.data }], guard := none }) (v := .tuple #[.int .i64 0, .int .i64 192]) rfl (by kernel_rfl) (by kernel_rfl) (by kernel_rfl) (fun _ _ _ h => h) (Or.inl ⟨by kernel_rfl, ?_⟩) hS ?_
    · intro w5 hSw
      clear hSw hS
      go_simp
    simp only [Act.put, List.setIfInBounds_toArray, List.set_cons_zero, List.set_cons_succ]
    refine wpAnyH_take (i := 9) (oi := { dst := some 52, op := Go.Op.extract (Go.Operand.tmp 43) 0, type := 3, pos := "law.go:268", after := #[{ on := 8, ground := Go.Ground.data }], guard := none }) (v := .int .i64 0) rfl (by kernel_rfl) (by kernel_rfl) (by kernel_rfl) (fun _ _ _ h => h) (Or.inl ⟨by kernel_rfl, ?_⟩) hS ?_
    · intro w5 hSw
      clear hSw hS
      go_simp
    simp only [Act.put, List.setIfInBounds_toArray, List.set_cons_zero, List.set_cons_succ]
    refine wpAnyH_take (i := 10) (oi := { dst := some 53, op := Go.Op.extract (Go.Operand.tmp 43) 1, type := 23, pos := "law.go:268", after := #[{ on := 8, ground := Go.Ground.data }, { on := 11, ground := Go.Ground.gcOnly Go.Departure.lateStores }], guard := none }) (v := .int .i64 192) rfl (by kernel_rfl) (by kernel_rfl) (by kernel_rfl) (fun _ _ _ h => h) (Or.inl ⟨by kernel_rfl, ?_⟩) hS ?_
    · intro w5 hSw
      clear hSw hS
      go_simp
    simp only [Act.put, List.setIfInBounds_toArray, List.set_cons_zero, List.set_cons_succ]
    refine wpAnyH_ready (rs := [11]) (by kernel_rfl) (by simp) ?_
    refine AllReadyH.cons (o := { dst := some 7, op := Go.Op.assign (Go.Operand.tmp 52), type := 3, pos := "law.go:268", after := #[{ on := 9, ground := Go.Ground.data }, { on := 7, ground := Go.Ground.chain }, { on := 0, ground := Go.Ground.phase }, { on := 1, ground := Go.Ground.phase }, { on := 2, ground := Go.Ground.phase }, { on := 3, ground := Go.Ground.phase }, { on := 4, ground := Go.Ground.phase }, { on := 5, ground := Go.Ground.phase }, { on := 6, ground := Go.Ground.phase }, { on := 7, ground := Go.Ground.phase }, { on := 8, ground := Go.Ground.phase }, { on := 9, ground := Go.Ground.phase }, { on := 10, ground := Go.Ground.textOnly Go.Departure.lateStores }], guard := none }) rfl (fun K hK => ?_) AllReadyH.nil
    rw [if_pos (by kernel_rfl)]
    go_simp
    refine hK.out _ _ hS (fun hS2 => ?_)
    clear hK K hS
    have hS := hS2
    clear hS2
    refine wpAnyH_ready (rs := [12]) (by kernel_rfl) (by simp) ?_
    refine AllReadyH.cons (o := { dst := some 8, op := Go.Op.assign (Go.Operand.tmp 53), type := 23, pos := "law.go:268", after := #[{ on := 10, ground := Go.Ground.data }, { on := 11, ground := Go.Ground.chain }, { on := 0, ground := Go.Ground.phase }, { on := 1, ground := Go.Ground.phase }, { on := 2, ground := Go.Ground.phase }, { on := 3, ground := Go.Ground.phase }, { on := 4, ground := Go.Ground.phase }, { on := 5, ground := Go.Ground.phase }, { on := 6, ground := Go.Ground.phase }, { on := 7, ground := Go.Ground.phase }, { on := 8, ground := Go.Ground.phase }, { on := 9, ground := Go.Ground.phase }, { on := 10, ground := Go.Ground.phase }, { on := 11, ground := Go.Ground.phase }], guard := none }) rfl (fun K hK => ?_) AllReadyH.nil
    rw [if_pos (by kernel_rfl)]
    go_simp
    refine hK.out _ _ hS (fun hS2 => ?_)
    clear hK K hS hS2
    refine wpAnyH_done (by kernel_rfl) ?_ _
    have HU4 := Hid.of ((Up.refl w3).drew)
    have qa := HU4.out.cell HCA3.out
    generalize w3.drew = w4 at *
    clear HCA3 HCX3 HW2
    go_wp2_with first | (go_at_call 16; refine hNw.mono ?_; rintro _ w9 ⟨rfl, h9⟩; obtain rfl := h9.symm; clear h9; dsimp only) | (go_at_call 13; refine (num_walk _ _).mono ?_; rintro _ w9 ⟨rfl, h9⟩; obtain rfl := h9.symm; clear h9; dsimp only)
    go_ret
    exact ⟨rfl, (HU2.out.trans HU3.out).trans HU4.out⟩
end Go.Proofs.Ytdlfkdehfenemaa
