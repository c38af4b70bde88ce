import Derived.Test.YtaobnnlcfefodaaDoorWg
import Derived.Lib.SlBytesConst
namespace Go.Proofs.YtaobnnlcfefodaaDoor
open Go.RowKit Go.Shelf TextNum
theorem smA_eq : smA = ([111, 108, 100, 32, 55, 10] ++ List.replicate 43 65 ++ [61, 10, 10] ++ smN) := by decide +kernel
theorem asz (w : World) (o : Obj) : (w.alloc o).heap.size = w.heap.size + 1 := by rw [World.alloc]; simp
theorem at_hl {w : World} {N : Nat} (hN : w.heap.size = N) : HL (w.alloc (.cells (cb zH).toArray 30)) (.slice (some ⟨N, 0, none⟩) 1 1) [zH] := by
  subst hN
  refine ⟨_, 1, rfl, Nat.le_refl _, fun j hj => ?_⟩
  obtain rfl : j = 0 := by simp at hj; omega
  refine ⟨rfl, w.heap.size, 0, rfl, by rw [World.alloc]; simp, fun i u hu => ?_⟩
  rw [World.cell?_alloc_at _ _ _ _ rfl]
  simpa using hu
theorem at_sl {w : World} {N : Nat} (hN : w.heap.size = N) (l : List UInt8) (t : TypeId) (f : Nat × Nat) : Sl (w.alloc (.cells (cb l).toArray t f)) (.slice (some ⟨N, 0, none⟩) l.length l.length) l := by
  subst hN
  refine ⟨_, l.length, rfl, Nat.le_refl _, .inr ⟨w.heap.size, 0, rfl, by rw [World.alloc]; simp, fun i hi => ?_⟩⟩
  rw [Nat.zero_add]
  have h1 : (w.alloc (.cells (cb l).toArray t f)).heap[w.heap.size]? = some (.cells (cb l).toArray t f) := by
    show (w.heap.push _)[w.heap.size]? = _
    simp
  rw [cell_of_row _ w.heap.size i (cb l).toArray t f h1]
  have := cb_get hi
  simpa using this
theorem conv_const (w : World) (o : Int) (pv hv av : Value) : (convert 23 23 (.slice (some ⟨w.heap.size + 1 + 1, 0, none⟩) 18 18)).run Tryd.prog (((w.alloc (Obj.cells #[.int .i64 o, pv, hv, av] 25)).alloc (Obj.cells #[.int .u8 0, .int .u8 0, .int .u8 0, .int .u8 0, .int .u8 0, .int .u8 0, .int .u8 0, .int .u8 0, .int .u8 0, .int .u8 0, .int .u8 0, .int .u8 0, .int .u8 0, .int .u8 0, .int .u8 0, .int .u8 0, .int .u8 0, .int .u8 0, .int .u8 0, .int .u8 0, .int .u8 0, .int .u8 0, .int .u8 0, .int .u8 0, .int .u8 0, .int .u8 0, .int .u8 0, .int .u8 0, .int .u8 0, .int .u8 0, .int .u8 0, .int .u8 0] 30)).alloc (Obj.cells #[.int .u8 97, .int .u8 10, .int .u8 10, .int .u8 226, .int .u8 128, .int .u8 148, .int .u8 32, .int .u8 97, .int .u8 32, .int .u8 65, .int .u8 65, .int .u8 65, .int .u8 65, .int .u8 66, .int .u8 51, .int .u8 103, .int .u8 61, .int .u8 10] 5)) = .ok (.slice (some ⟨w.heap.size + 1 + 1, 0, none⟩) 18 18) (((w.alloc (Obj.cells #[.int .i64 o, pv, hv, av] 25)).alloc (Obj.cells #[.int .u8 0, .int .u8 0, .int .u8 0, .int .u8 0, .int .u8 0, .int .u8 0, .int .u8 0, .int .u8 0, .int .u8 0, .int .u8 0, .int .u8 0, .int .u8 0, .int .u8 0, .int .u8 0, .int .u8 0, .int .u8 0, .int .u8 0, .int .u8 0, .int .u8 0, .int .u8 0, .int .u8 0, .int .u8 0, .int .u8 0, .int .u8 0, .int .u8 0, .int .u8 0, .int .u8 0, .int .u8 0, .int .u8 0, .int .u8 0, .int .u8 0, .int .u8 0] 30)).alloc (Obj.cells #[.int .u8 97, .int .u8 10, .int .u8 10, .int .u8 226, .int .u8 128, .int .u8 148, .int .u8 32, .int .u8 97, .int .u8 32, .int .u8 65, .int .u8 65, .int .u8 65, .int .u8 65, .int .u8 66, .int .u8 51, .int .u8 103, .int .u8 61, .int .u8 10] 5 (18, 19))) := by
  have h := Go.Lib.run_convert_bytes_const (P := Tryd.prog) ((w.alloc (Obj.cells #[.int .i64 o, pv, hv, av] 25)).alloc (Obj.cells #[.int .u8 0, .int .u8 0, .int .u8 0, .int .u8 0, .int .u8 0, .int .u8 0, .int .u8 0, .int .u8 0, .int .u8 0, .int .u8 0, .int .u8 0, .int .u8 0, .int .u8 0, .int .u8 0, .int .u8 0, .int .u8 0, .int .u8 0, .int .u8 0, .int .u8 0, .int .u8 0, .int .u8 0, .int .u8 0, .int .u8 0, .int .u8 0, .int .u8 0, .int .u8 0, .int .u8 0, .int .u8 0, .int .u8 0, .int .u8 0, .int .u8 0, .int .u8 0] 30)) 23 5 #[.int .u8 97, .int .u8 10, .int .u8 10, .int .u8 226, .int .u8 128, .int .u8 148, .int .u8 32, .int .u8 97, .int .u8 32, .int .u8 65, .int .u8 65, .int .u8 65, .int .u8 65, .int .u8 66, .int .u8 51, .int .u8 103, .int .u8 61, .int .u8 10] 18 18 Tryd.underlying23 Tryd.underlying5
  rw [asz, asz] at h
  exact h
set_option maxRecDepth 100000 in
set_option maxHeartbeats 8000000 in
theorem WitnessBack_walk (w : World) (o : Int) (pv hv av : Value) (hs : List (List UInt8)) (m l : List UInt8) (hP : HL w pv hs) (hM : Sl w hv m) (hA : Sl w av l) (hT : TabL w) (hW : Go.Lib.WhiteTab 5 w) (hG : GN w) (hl : hs.length * 32 ≤ 140737488355328) :
    Calls Tryd.prog 3 #[.agg #[.int .i64 o, pv, hv, av]] w fun e w' => e = .returned (.bool true) ∧ Up w w' := by
  have HP := Hid.of hP
  have HM := Hid.of hM
  have HA := Hid.of hA
  have HT := Hid.of hT
  have HW := Hid.of hW
  have HG := Hid.of hG
  have H32 := Hid.of (show ∀ h ∈ hs, h.length = 32 from fun h hh => by
    obtain ⟨_, _, _, _, hx⟩ := hP
    obtain ⟨j, hj, rfl⟩ := List.getElem_of_mem hh
    exact (hx j hj).1)
  clear hP hM hA hT hW hG
  go_enter Tryd.func3, Tryd.ntmps3
  have hcs := conv_const w o pv hv av
  go_wp2_with fail
  change Calls _ _ _ (((w.alloc (Obj.cells #[.int .i64 o, pv, hv, av] 25)).alloc (Obj.cells (cb zH).toArray 30)).alloc (Obj.cells (cb smN).toArray 5 (18, 19))) _
  have HU0 := Hid.of ((((Up.refl w).alloc (Obj.cells #[.int .i64 o, pv, hv, av] 25)).alloc (Obj.cells (cb zH).toArray 30)).alloc (Obj.cells (cb smN).toArray 5 (18, 19)))
  have HL0 := Hid.of ((at_hl (w := w.alloc (Obj.cells #[.int .i64 o, pv, hv, av] 25)) (N := w.heap.size + 1) (asz _ _)).up ((Up.refl _).alloc (Obj.cells (cb smN).toArray 5 (18, 19))))
  have HS0 := Hid.of (at_sl (w := (w.alloc (Obj.cells #[.int .i64 o, pv, hv, av] 25)).alloc (Obj.cells (cb zH).toArray 30)) (N := w.heap.size + 1 + 1) (by rw [asz, asz]) smN 5 (18, 19))
  have HB0 := Hid.of (show (((w.alloc (Obj.cells #[.int .i64 o, pv, hv, av] 25)).alloc (Obj.cells (cb zH).toArray 30)).alloc (Obj.cells (cb smN).toArray 5 (18, 19))).rangeAt w.heap.size 0 [.int .i64 o, pv, hv, av] from fun j u hu => (((Up.refl _).alloc (Obj.cells (cb zH).toArray 30)).alloc (Obj.cells (cb smN).toArray 5 (18, 19))).cell (by
    rw [World.cell?_alloc_at _ _ _ _ rfl, Nat.zero_add]
    simpa using hu))
  generalize ((w.alloc (Obj.cells #[.int .i64 o, pv, hv, av] 25)).alloc (Obj.cells (cb zH).toArray 30)).alloc (Obj.cells (cb smN).toArray 5 (18, 19)) = W0 at *
  refine (FormatAsk_yes W0 7 _ _ [zH] smN HL0.out HS0.out (HT.out.up HU0.out) (WhiteTab_up HW.out HU0.out) (HG.out.up HU0.out) (by decide) (by decide) (by decide) sm_note).mono ?_
  rintro e W1 ⟨v1, rfl, hO1, q1⟩
  have HU1 := Hid.of (HU0.out.trans q1)
  have HB1 := Hid.of (range_upW HB0.out q1)
  have hcv := conv_sl hO1.sl
  rw [show vs (fmA 7 [zH] smN) = .string ⟨smA.toArray⟩ from rfl, smA_eq] at hcv
  clear hO1 q1 HL0 HS0 HB0 HU0 hcs
  generalize w.heap.size = xb at *
  dsimp only
  go_wp2_with (go_at_call 5; refine (wnum_walk _ _).mono ?_; rintro _ w9 ⟨rfl, h9⟩; obtain rfl := h9.symm; clear h9; dsimp only)
  refine wp_region_held_drew (S := fun w2 => Up W1 w2) (by kernel_rfl) (Up.refl W1).drew (fun hS => ?_)
  refine wpAnyH_take (i := 0) (oi := { dst := some 31, op := Go.Op.fieldAddr 25 (Go.Operand.tmp 1) 0, type := 0, pos := "outright.go:359", after := #[], guard := none }) (v := .pointer (some ⟨xb, 0, none⟩)) rfl (by kernel_rfl) (by kernel_rfl) (by kernel_rfl) (fun _ _ _ h => h) (Or.inl ⟨by kernel_rfl, ?_⟩) hS ?_
  · intro w5 hSw
    clear hSw hS
    go_simp
  simp only [Act.put, List.setIfInBounds_toArray, List.set_cons_zero, List.set_cons_succ]
  refine wpAnyH_take (i := 1) (oi := { dst := some 32, op := Go.Op.load 3 (Go.Operand.tmp 31), type := 3, pos := "outright.go:359", after := #[{ on := 0, ground := Go.Ground.data }], guard := none }) (v := .int .i64 o) rfl (by kernel_rfl) (by kernel_rfl) (by kernel_rfl) (fun _ _ _ h => h) (Or.inl ⟨by kernel_rfl, ?_⟩) hS ?_
  · intro w5 hSw
    have hc := hSw.cell (show W1.cell? ⟨xb, 0, none⟩ = some (.int .i64 o) from HB1.out 0 _ rfl)
    clear hSw hS
    go_simp
  simp only [Act.put, List.setIfInBounds_toArray, List.set_cons_zero, List.set_cons_succ]
  refine wpAnyH_take (i := 2) (oi := { dst := some 33, op := Go.Op.fieldAddr 25 (Go.Operand.tmp 1) 1, type := 0, pos := "outright.go:359", after := #[], guard := none }) (v := .pointer (some ⟨xb, 1, none⟩)) rfl (by kernel_rfl) (by kernel_rfl) (by kernel_rfl) (fun _ _ _ h => h) (Or.inl ⟨by kernel_rfl, ?_⟩) hS ?_
  · intro w5 hSw
    clear hSw hS
    go_simp
  simp only [Act.put, List.setIfInBounds_toArray, List.set_cons_zero, List.set_cons_succ]
  refine wpAnyH_take (i := 3) (oi := { dst := some 34, op := Go.Op.load 22 (Go.Operand.tmp 33), type := 22, pos := "outright.go:359", after := #[{ on := 2, ground := Go.Ground.data }], guard := none }) (v := pv) rfl (by kernel_rfl) (by kernel_rfl) (by kernel_rfl) (fun _ _ _ h => h) (Or.inl ⟨by kernel_rfl, ?_⟩) hS ?_
  · intro w5 hSw
    have hc := hSw.cell (show W1.cell? ⟨xb, 1, none⟩ = some pv from HB1.out 1 _ rfl)
    clear hSw hS
    go_simp
  simp only [Act.put, List.setIfInBounds_toArray, List.set_cons_zero, List.set_cons_succ]
  refine wpAnyH_take (i := 5) (oi := { dst := some 36, op := Go.Op.fieldAddr 25 (Go.Operand.tmp 1) 2, type := 0, pos := "outright.go:359", after := #[], guard := none }) (v := .pointer (some ⟨xb, 2, none⟩)) rfl (by kernel_rfl) (by kernel_rfl) (by kernel_rfl) (fun _ _ _ h => h) (Or.inl ⟨by kernel_rfl, ?_⟩) hS ?_
  · intro w5 hSw
    clear hSw hS
    go_simp
  simp only [Act.put, List.setIfInBounds_toArray, List.set_cons_zero, List.set_cons_succ]
  refine wpAnyH_take (i := 6) (oi := { dst := some 37, op := Go.Op.load 23 (Go.Operand.tmp 36), type := 23, pos := "outright.go:359", after := #[{ on := 5, ground := Go.Ground.data }], guard := none }) (v := hv) rfl (by kernel_rfl) (by kernel_rfl) (by kernel_rfl) (fun _ _ _ h => h) (Or.inl ⟨by kernel_rfl, ?_⟩) hS ?_
  · intro w5 hSw
    have hc := hSw.cell (show W1.cell? ⟨xb, 2, none⟩ = some hv from HB1.out 2 _ rfl)
    clear hSw hS
    go_simp
  simp only [Act.put, List.setIfInBounds_toArray, List.set_cons_zero, List.set_cons_succ]
  refine wpAnyH_ready (rs := [4]) (by kernel_rfl) (by simp) ?_
  refine AllReadyH.cons (o := { dst := some 35, op := Go.Op.call { callee := Go.Callee.value (Go.Operand.func 6), args := #[Go.Operand.tmp 34], argTypes := #[22] }, type := 31, pos := "outright.go:359", after := #[{ on := 3, ground := Go.Ground.data }], guard := none }) rfl (fun K hK => ?_) AllReadyH.nil
  rw [if_pos (by kernel_rfl)]
  go_simp
  refine (hashes_walk pv hs W1.drew (HP.out.up (HU1.out.trans (Up.refl W1).drew)) hl).mono ?_
  rintro e w5 ⟨p5, rfl, hO5, q5⟩
  have HU5 := Hid.of ((Up.refl W1).drew.trans q5)
  have HH5 := Hid.of (hO5.hl H32.out)
  clear hO5 q5
  dsimp only
  refine hK.out _ _ HU5.out (fun hS2 => ?_)
  clear hK K hS
  have hS := hS2
  clear hS2
  refine wpAnyH_ready (rs := [7]) (by kernel_rfl) (by simp) ?_
  refine AllReadyH.cons (o := { dst := some 38, op := Go.Op.call { callee := Go.Callee.value (Go.Operand.func 4), args := #[Go.Operand.tmp 32, Go.Operand.tmp 35, Go.Operand.tmp 37], argTypes := #[2, 31, 23] }, type := 27, pos := "outright.go:359", after := #[{ on := 1, ground := Go.Ground.data }, { on := 4, ground := Go.Ground.data }, { on := 6, ground := Go.Ground.data }, { on := 4, ground := Go.Ground.chain }], guard := none }) rfl (fun K hK => ?_) AllReadyH.nil
  rw [if_pos (by kernel_rfl)]
  go_simp
  have HV5 := Hid.of (HU1.out.trans HU5.out)
  refine (FormatAsk_any w5 o p5 hv hs m HH5.out (HM.out.up HV5.out) (HT.out.up HV5.out) (WhiteTab_up HW.out HV5.out) (HG.out.up HV5.out)).mono ?_
  rintro e w6 ⟨v6, er, rfl, q6, hcase⟩
  have HU6 := Hid.of (HU5.out.trans q6)
  have HCS := Hid.of hcase
  clear hcase q6 HU5 HH5
  dsimp only
  refine hK.out _ _ HU6.out (fun hS2 => ?_)
  clear hK K hS
  have hS := hS2
  clear hS2
  refine wpAnyH_take (i := 8) (oi := { dst := some 30, op := Go.Op.move (Go.Operand.tmp 38), type := 27, pos := "outright.go:359", after := #[{ on := 7, ground := Go.Ground.data }], guard := none }) (v := .tuple #[v6, .int .i64 er]) rfl (by kernel_rfl) (by kernel_rfl) (by kernel_rfl) (fun _ _ _ h => h) (Or.inl ⟨by kernel_rfl, ?_⟩) hS ?_
  · intro w5 hSw
    clear hSw hS
    go_simp
  simp only [Act.put, List.setIfInBounds_toArray, List.set_cons_zero, List.set_cons_succ]
  refine wpAnyH_take (i := 9) (oi := { dst := some 39, op := Go.Op.extract (Go.Operand.tmp 30) 0, type := 23, pos := "outright.go:359", after := #[{ on := 8, ground := Go.Ground.data }], guard := none }) (v := v6) rfl (by kernel_rfl) (by kernel_rfl) (by kernel_rfl) (fun _ _ _ h => h) (Or.inl ⟨by kernel_rfl, ?_⟩) hS ?_
  · intro w5 hSw
    clear hSw hS
    go_simp
  simp only [Act.put, List.setIfInBounds_toArray, List.set_cons_zero, List.set_cons_succ]
  refine wpAnyH_take (i := 10) (oi := { dst := some 40, op := Go.Op.extract (Go.Operand.tmp 30) 1, type := 26, pos := "outright.go:359", after := #[{ on := 8, ground := Go.Ground.data }, { on := 11, ground := Go.Ground.gcOnly Go.Departure.lateStores }], guard := none }) (v := .int .i64 er) rfl (by kernel_rfl) (by kernel_rfl) (by kernel_rfl) (fun _ _ _ h => h) (Or.inl ⟨by kernel_rfl, ?_⟩) hS ?_
  · intro w5 hSw
    clear hSw hS
    go_simp
  simp only [Act.put, List.setIfInBounds_toArray, List.set_cons_zero, List.set_cons_succ]
  refine wpAnyH_ready (rs := [11]) (by kernel_rfl) (by simp) ?_
  refine AllReadyH.cons (o := { dst := some 5, op := Go.Op.assign (Go.Operand.tmp 39), type := 23, pos := "outright.go:359", after := #[{ on := 9, ground := Go.Ground.data }, { on := 7, ground := Go.Ground.chain }, { on := 0, ground := Go.Ground.phase }, { on := 1, ground := Go.Ground.phase }, { on := 2, ground := Go.Ground.phase }, { on := 3, ground := Go.Ground.phase }, { on := 4, ground := Go.Ground.phase }, { on := 5, ground := Go.Ground.phase }, { on := 6, ground := Go.Ground.phase }, { on := 7, ground := Go.Ground.phase }, { on := 8, ground := Go.Ground.phase }, { on := 9, ground := Go.Ground.phase }, { on := 10, ground := Go.Ground.textOnly Go.Departure.lateStores }], guard := none }) rfl (fun K hK => ?_) AllReadyH.nil
  rw [if_pos (by kernel_rfl)]
  go_simp
  refine hK.out _ _ hS (fun hS2 => ?_)
  clear hK K hS
  have hS := hS2
  clear hS2
  refine wpAnyH_ready (rs := [12]) (by kernel_rfl) (by simp) ?_
  refine AllReadyH.cons (o := { dst := some 4, op := Go.Op.assign (Go.Operand.tmp 40), type := 26, pos := "outright.go:359", after := #[{ on := 10, ground := Go.Ground.data }, { on := 11, ground := Go.Ground.chain }, { on := 0, ground := Go.Ground.phase }, { on := 1, ground := Go.Ground.phase }, { on := 2, ground := Go.Ground.phase }, { on := 3, ground := Go.Ground.phase }, { on := 4, ground := Go.Ground.phase }, { on := 5, ground := Go.Ground.phase }, { on := 6, ground := Go.Ground.phase }, { on := 7, ground := Go.Ground.phase }, { on := 8, ground := Go.Ground.phase }, { on := 9, ground := Go.Ground.phase }, { on := 10, ground := Go.Ground.phase }, { on := 11, ground := Go.Ground.phase }], guard := none }) rfl (fun K hK => ?_) AllReadyH.nil
  rw [if_pos (by kernel_rfl)]
  go_simp
  refine hK.out _ _ hS (fun hS2 => ?_)
  clear hK K hS hS2
  refine wpAnyH_done (by kernel_rfl) ?_ _
  clear hcv
  have HUX := Hid.of (HU1.out.trans HU6.out)
  have HBX := Hid.of (range_upW HB1.out HU6.out)
  clear HU6 HB1 HU1
  rcases HCS.out with ⟨rfl, hva, hoa⟩ | ⟨her, _⟩
  · have HV := Hid.of hva
    have HO6 := Hid.of hoa.sl
    clear hva hoa
    go_wp2_with (go_at_call 5; refine (wnum_walk _ _).mono ?_; rintro _ w9 ⟨rfl, h9⟩; obtain rfl := h9.symm; clear h9; dsimp only)
    go_wp2_with fail
    refine (ParseAsk_walk v6 (fmA o hs m) w6 HO6.out (HT.out.up HUX.out) (WhiteTab_up HW.out HUX.out) (HG.out.up HUX.out)).mono ?_
    rintro e w7 ⟨n7, p7, h7, e7, rfl, q7, hc7⟩
    have HU7 := Hid.of (HUX.out.trans q7)
    have HB7 := Hid.of (range_upW HBX.out q7)
    clear q7 HUX HBX HO6
    rcases hc7 with ⟨rfl, hs7, m7, hva, hla, hoa, hma⟩ | ⟨_, _, _, _, hno⟩
    · obtain ⟨rfl, rfl, rfl⟩ := fm_inj HV.out hva hla
      have HP7 := Hid.of (hoa.hl hva.l)
      have HM7 := Hid.of hma.sl
      clear hva hla hoa hma
      dsimp only
      have b0 : w7.cell? ⟨xb, 0, none⟩ = some (.int .i64 o) := HB7.out 0 _ rfl
      have b1 : w7.cell? ⟨xb, 1, none⟩ = some pv := HB7.out 1 _ rfl
      go_wp2_with (go_at_call 5; refine (wnum_walk _ _).mono ?_; rintro _ w9 ⟨rfl, h9⟩; obtain rfl := h9.symm; clear h9; dsimp only)
      refine (proofs_walk p7 pv hs w7 HP7.out (HP.out.up HU7.out) HV.out.n).mono ?_
      rintro e w8 ⟨rfl, q8⟩
      have HUX := Hid.of (HU7.out.trans q8)
      have HBX := Hid.of (range_upW HB7.out q8)
      have b2 : w8.cell? ⟨xb, 2, none⟩ = some hv := HBX.out 2 _ rfl
      have cv1 := conv_sl (HM7.out.up q8)
      have cv2 := conv_sl (HM.out.up HUX.out)
      rw [show vs m = .string ⟨m.toArray⟩ from rfl] at cv1 cv2
      clear q8 HU7 HB7 HP7 HM7 b0 b1
      dsimp only
      have bx3 : w8.cell? ⟨xb, 3, none⟩ = some av := HBX.out 3 _ rfl
      go_wp2_with (go_at_call 5; refine (wnum_walk _ _).mono ?_; rintro _ w9 ⟨rfl, h9⟩; obtain rfl := h9.symm; clear h9; dsimp only)
      refine (ParseAsk_walk av l w8 (HA.out.up HUX.out) (HT.out.up HUX.out) (WhiteTab_up HW.out HUX.out) (HG.out.up HUX.out)).mono ?_
      rintro e wa ⟨na, pa, ha, ea, rfl, qa, hca⟩
      have HUA := Hid.of (HUX.out.trans qa)
      have HBA := Hid.of (range_upW HBX.out qa)
      clear qa bx3
      dsimp only
      rcases hca with ⟨rfl, hs2, m2, hva, hla, hoa, hma⟩ | ⟨hea, rfl, rfl, rfl, _⟩
      · have HVA := Hid.of (And.intro hva hla)
        have HOA := Hid.of (hoa.hl hva.l)
        have HMA := Hid.of hma.sl
        clear hva hla hoa hma HBX HUX
        go_wp2_with (go_at_call 5; refine (wnum_walk _ _).mono ?_; rintro _ w9 ⟨rfl, h9⟩; obtain rfl := h9.symm; clear h9; dsimp only)
        go_wp2_with fail
        refine (FormatAsk_yes wa na pa ha hs2 m2 HOA.out HMA.out (HT.out.up HUA.out) (WhiteTab_up HW.out HUA.out) (HG.out.up HUA.out) HVA.out.1.o0 HVA.out.1.o1 HVA.out.1.n HVA.out.1.m).mono ?_
        rintro e wb ⟨vb, rfl, hOb, qb⟩
        have HUB := Hid.of (HUA.out.trans qb)
        have bx3 : wb.cell? ⟨xb, 3, none⟩ = some av := (range_upW HBA.out qb) 3 _ rfl
        have hcb := conv_sl hOb.sl
        have hca := conv_sl (HA.out.up HUB.out)
        rw [← HVA.out.2, show vs l = .string ⟨l.toArray⟩ from rfl] at hcb
        rw [show vs l = .string ⟨l.toArray⟩ from rfl] at hca
        clear hOb qb HOA HMA HVA HBA HUA
        dsimp only
        go_wp2_with (go_at_call 5; refine (wnum_walk _ _).mono ?_; rintro _ w9 ⟨rfl, h9⟩; obtain rfl := h9.symm; clear h9; dsimp only)
        go_ret
        exact ⟨rfl, HUB.out⟩
      · have hea' : ¬ ea = 0 := hea
        clear hea
        go_wp2_with (go_at_call 5; refine (wnum_walk _ _).mono ?_; rintro _ w9 ⟨rfl, h9⟩; obtain rfl := h9.symm; clear h9; dsimp only)
        go_ret
        exact ⟨rfl, HUA.out⟩
    · exact absurd ⟨o, hs, m, HV.out, rfl⟩ hno
  · have her' : ¬ er = 0 := her
    clear her HCS
    have bx3 : w6.cell? ⟨xb, 3, none⟩ = some av := HBX.out 3 _ rfl
    go_wp2_with (go_at_call 5; refine (wnum_walk _ _).mono ?_; rintro _ w9 ⟨rfl, h9⟩; obtain rfl := h9.symm; clear h9; dsimp only)
    refine (ParseAsk_walk av l w6 (HA.out.up HUX.out) (HT.out.up HUX.out) (WhiteTab_up HW.out HUX.out) (HG.out.up HUX.out)).mono ?_
    rintro e wa ⟨na, pa, ha, ea, rfl, qa, hca⟩
    have HUA := Hid.of (HUX.out.trans qa)
    have HBA := Hid.of (range_upW HBX.out qa)
    clear qa bx3
    dsimp only
    rcases hca with ⟨rfl, hs2, m2, hva, hla, hoa, hma⟩ | ⟨hea, rfl, rfl, rfl, _⟩
    · have HVA := Hid.of (And.intro hva hla)
      have HOA := Hid.of (hoa.hl hva.l)
      have HMA := Hid.of hma.sl
      clear hva hla hoa hma HBX HUX
      go_wp2_with (go_at_call 5; refine (wnum_walk _ _).mono ?_; rintro _ w9 ⟨rfl, h9⟩; obtain rfl := h9.symm; clear h9; dsimp only)
      go_wp2_with fail
      refine (FormatAsk_yes wa na pa ha hs2 m2 HOA.out HMA.out (HT.out.up HUA.out) (WhiteTab_up HW.out HUA.out) (HG.out.up HUA.out) HVA.out.1.o0 HVA.out.1.o1 HVA.out.1.n HVA.out.1.m).mono ?_
      rintro e wb ⟨vb, rfl, hOb, qb⟩
      have HUB := Hid.of (HUA.out.trans qb)
      have bx3 : wb.cell? ⟨xb, 3, none⟩ = some av := (range_upW HBA.out qb) 3 _ rfl
      have hcb := conv_sl hOb.sl
      have hca := conv_sl (HA.out.up HUB.out)
      rw [← HVA.out.2, show vs l = .string ⟨l.toArray⟩ from rfl] at hcb
      rw [show vs l = .string ⟨l.toArray⟩ from rfl] at hca
      clear hOb qb HOA HMA HVA HBA HUA
      dsimp only
      go_wp2_with (go_at_call 5; refine (wnum_walk _ _).mono ?_; rintro _ w9 ⟨rfl, h9⟩; obtain rfl := h9.symm; clear h9; dsimp only)
      go_ret
      exact ⟨rfl, HUB.out⟩
    · have hea' : ¬ ea = 0 := hea
      clear hea
      go_wp2_with (go_at_call 5; refine (wnum_walk _ _).mono ?_; rintro _ w9 ⟨rfl, h9⟩; obtain rfl := h9.symm; clear h9; dsimp only)
      go_ret
      exact ⟨rfl, HUA.out⟩
end Go.Proofs.YtaobnnlcfefodaaDoor
