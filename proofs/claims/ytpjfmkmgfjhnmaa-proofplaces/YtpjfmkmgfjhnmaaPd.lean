import Derived.Test.YtpjfmkmgfjhnmaaPp
import Derived.Test.YtpjfmkmgfjhnmaaPc0
namespace Go.Proofs.Ytpjfmkmgfjhnmaa
open Go.RowKit Tlg
set_option maxRecDepth 100000 in
theorem children_walk (a b : Nat) (h2 : 2 ≤ b - a) (hb : b ≤ 281474976710656) (w : World) : Calls Try.prog 16 #[sp a b] w fun e w' => e = .returned (.tuple #[sp a (cut a b), sp (cut a b) b]) ∧ Up w w' := by
  have HS := fun w => Hid.of (size_walk a b (by omega) hb w)
  have hci := cut_in h2
  have hl := lg_top (n := b - a - 1) (by omega) (show b - a - 1 ≤ top by unfold top; omega)
  have HL := fun w => Hid.of (Len_walk (b - a - 1) (by omega) (by omega) w)
  have e1 : ((b - a : Nat) : Int) - 1 = ((b - a - 1 : Nat) : Int) := by omega
  have hs : (1 : Int) * 2 ^ lg (b - a - 1) = ((lft a b : Nat) : Int) := by unfold lft; simp
  have hk : (a : Int) + (lft a b : Int) = (cut a b : Int) := by unfold cut; omega
  have hlb : lft a b ≤ 281474976710656 := by unfold cut at hci; omega
  have hnb : b - a ≤ 281474976710656 := by omega
  have hcb : cut a b ≤ 281474976710656 := by omega
  clear h2 hci
  generalize lft a b = f at hs hk hlb
  generalize cut a b = c at hk hcb ⊢
  generalize lg (b - a - 1) = l at hs HL hl
  generalize hn1 : b - a - 1 = n1 at HL e1
  generalize b - a = n at HS hnb e1 hn1
  have hn1b : n1 ≤ 281474976710656 := by omega
  clear hn1
  have hl1 : (l : Int) + 1 - 1 = (l : Int) := by omega
  have hwf : IntKind.i64.wrap ((f : Nat) : Int) = ((f : Nat) : Int) := by rw [IntKind.wrap_i64]; omega
  have hwn : IntKind.i64.wrap (n1 : Int) = (n1 : Int) := by rw [IntKind.wrap_i64]; omega
  have hun : IntKind.u64.wrap (n1 : Int) = (n1 : Int) := by simp [IntKind.wrap, IntKind.bits, IntKind.signed]; omega
  have hwl : IntKind.i64.wrap (l : Int) = (l : Int) := by rw [IntKind.wrap_i64]; omega
  have hwc : IntKind.i64.wrap (c : Int) = (c : Int) := by rw [IntKind.wrap_i64]; omega
  go_enter Try.func16, Try.ntmps16
  go_wp2_with fail
  obtain ⟨W, hW⟩ : ∃ W, W = ((w.alloc (.cells #[.int .i64 (a : Int), .int .i64 (b : Int)] 41)).alloc (.cells #[.int .i64 0, .int .i64 0] 41)).alloc (.cells #[.int .i64 0, .int .i64 0] 41) := ⟨_, rfl⟩
  rw [← hW]
  have HU1 : Hid (Up w W) := by rw [hW]; exact (((Up.refl _).alloc _).alloc _).alloc _
  have HB : Hid (W.heap[w.heap.size]? = some (.cells #[.int .i64 (a : Int), .int .i64 (b : Int)] 41) ∧ W.heap[w.heap.size + 1]? = some (.cells #[.int .i64 0, .int .i64 0] 41) ∧ W.heap[w.heap.size + 1 + 1]? = some (.cells #[.int .i64 0, .int .i64 0] 41)) := by rw [hW]; exact three_new w _ _ _
  have c0 := cell_at (i := 0) (v := .int .i64 (a : Int)) HB.out.1 rfl
  have c1 := cell_at (i := 1) (v := .int .i64 (b : Int)) HB.out.1 rfl
  clear hW
  refine wp_region_held_drew (S := fun w2 => Up W w2) (by kernel_rfl) (Up.refl _).drew (fun hS => ?_)
  refine wpAnyH_take (i := 0) (oi := { dst := some 5, op := Go.Op.fieldAddr 41 (Go.Operand.tmp 1) 0, type := 0, pos := "way.go:23", after := #[], guard := none }) (v := .pointer (some ⟨w.heap.size, 0, none⟩)) rfl (by kernel_rfl) (by kernel_rfl) (by kernel_rfl) (fun _ _ _ h => h) (Or.inl ⟨by kernel_rfl, ?_⟩) hS ?_
  · intro w5 hSw
    clear hSw hS
    go_simp
  simp only [Act.put, List.setIfInBounds_toArray, List.set_cons_zero, List.set_cons_succ]
  refine wpAnyH_take (i := 1) (oi := { dst := some 6, op := Go.Op.load 2 (Go.Operand.tmp 5), type := 2, pos := "way.go:23", after := #[{ on := 0, ground := Go.Ground.data }], guard := none }) (v := .int .i64 (a : Int)) rfl (by kernel_rfl) (by kernel_rfl) (by kernel_rfl) (fun _ _ _ h => h) (Or.inl ⟨by kernel_rfl, ?_⟩) hS ?_
  · intro w5 hSw
    have h0 := hSw.cell c0
    have h1 := hSw.cell c1
    clear hSw hS
    go_simp
  simp only [Act.put, List.setIfInBounds_toArray, List.set_cons_zero, List.set_cons_succ]
  refine wpAnyH_take (i := 2) (oi := { dst := some 7, op := Go.Op.load 41 (Go.Operand.tmp 1), type := 41, pos := "way.go:23", after := #[], guard := none }) (v := sp a b) rfl (by kernel_rfl) (by kernel_rfl) (by kernel_rfl) (fun _ _ _ h => h) (Or.inl ⟨by kernel_rfl, ?_⟩) hS ?_
  · intro w5 hSw
    have h0 := hSw.cell c0
    have h1 := hSw.cell c1
    clear hSw hS
    go_simp
  simp only [Act.put, List.setIfInBounds_toArray, List.set_cons_zero, List.set_cons_succ]
  refine wpAnyH_ready (rs := [3]) (by kernel_rfl) (by simp) ?_
  refine AllReadyH.cons (o := { dst := some 8, op := Go.Op.call { callee := Go.Callee.value (Go.Operand.func 21), args := #[Go.Operand.tmp 7], argTypes := #[41] }, type := 2, pos := "way.go:23", after := #[{ on := 2, ground := Go.Ground.data }], guard := none }) rfl (fun K hK => ?_) AllReadyH.nil
  rw [if_pos (by kernel_rfl)]
  go_simp
  refine ((HS _).out).mono ?_
  rintro e w2 ⟨rfl, u⟩
  dsimp only
  have hS2 := hS.trans u
  clear hS u
  refine hK.out _ _ hS2 (fun hS => ?_)
  clear hK hS2 K
  refine wpAnyH_take (i := 4) (oi := { dst := some 9, op := Go.Op.binOp Go.BinOp.sub 2 (Go.Operand.tmp 8) (Go.Operand.const (Go.Value.int Go.IntKind.i64 1)) 2, type := 2, pos := "way.go:23", after := #[{ on := 3, ground := Go.Ground.data }], guard := none }) (v := .int .i64 (n1 : Int)) rfl (by kernel_rfl) (by kernel_rfl) (by kernel_rfl) (fun _ _ _ h => h) (Or.inl ⟨by kernel_rfl, ?_⟩) hS ?_
  · intro w5 hSw
    clear hSw hS
    go_simp
  simp only [Act.put, List.setIfInBounds_toArray, List.set_cons_zero, List.set_cons_succ]
  refine wpAnyH_take (i := 5) (oi := { dst := some 10, op := Go.Op.convert 2 51 (Go.Operand.tmp 9), type := 51, pos := "way.go:23", after := #[{ on := 4, ground := Go.Ground.data }], guard := none }) (v := .int .u64 (n1 : Int)) rfl (by kernel_rfl) (by kernel_rfl) (by kernel_rfl) (fun _ _ _ h => h) (Or.inl ⟨by kernel_rfl, ?_⟩) hS ?_
  · intro w5 hSw
    clear hSw hS
    go_simp
  simp only [Act.put, List.setIfInBounds_toArray, List.set_cons_zero, List.set_cons_succ]
  refine wpAnyH_ready (rs := [6]) (by kernel_rfl) (by simp) ?_
  refine AllReadyH.cons (o := { dst := some 11, op := Go.Op.call { callee := Go.Callee.value (Go.Operand.func 22), args := #[Go.Operand.tmp 10], argTypes := #[51] }, type := 3, pos := "way.go:23", after := #[{ on := 5, ground := Go.Ground.data }, { on := 3, ground := Go.Ground.chain }], guard := none }) rfl (fun K hK => ?_) AllReadyH.nil
  rw [if_pos (by kernel_rfl)]
  go_simp
  refine ((HL _).out).mono ?_
  rintro e w3 ⟨rfl, rfl⟩
  dsimp only
  have hS2 := hS
  clear hS
  refine hK.out _ _ hS2 (fun hS => ?_)
  clear hK hS2 K
  refine wpAnyH_take (i := 7) (oi := { dst := some 12, op := Go.Op.binOp Go.BinOp.sub 3 (Go.Operand.tmp 11) (Go.Operand.const (Go.Value.int Go.IntKind.i64 1)) 3, type := 3, pos := "way.go:23", after := #[{ on := 6, ground := Go.Ground.data }], guard := none }) (v := .int .i64 (l : Int)) rfl (by kernel_rfl) (by kernel_rfl) (by kernel_rfl) (fun _ _ _ h => h) (Or.inl ⟨by kernel_rfl, ?_⟩) hS ?_
  · intro w5 hSw
    clear hSw hS
    go_simp
  simp only [Act.put, List.setIfInBounds_toArray, List.set_cons_zero, List.set_cons_succ]
  refine wpAnyH_take (i := 8) (oi := { dst := some 13, op := Go.Op.binOp Go.BinOp.shl 2 (Go.Operand.const (Go.Value.int Go.IntKind.i64 1)) (Go.Operand.tmp 12) 3, type := 2, pos := "way.go:23", after := #[{ on := 7, ground := Go.Ground.data }], guard := none }) (v := .int .i64 (f : Int)) rfl (by kernel_rfl) (by kernel_rfl) (by kernel_rfl) (fun _ _ _ h => h) (Or.inl ⟨by kernel_rfl, ?_⟩) hS ?_
  · intro w5 hSw
    clear hSw hS
    go_simp
  simp only [Act.put, List.setIfInBounds_toArray, List.set_cons_zero, List.set_cons_succ]
  refine wpAnyH_take (i := 9) (oi := { dst := some 14, op := Go.Op.binOp Go.BinOp.add 2 (Go.Operand.tmp 6) (Go.Operand.tmp 13) 2, type := 2, pos := "way.go:23", after := #[{ on := 1, ground := Go.Ground.data }, { on := 8, ground := Go.Ground.data }], guard := none }) (v := .int .i64 (c : Int)) rfl (by kernel_rfl) (by kernel_rfl) (by kernel_rfl) (fun _ _ _ h => h) (Or.inl ⟨by kernel_rfl, ?_⟩) hS ?_
  · intro w5 hSw
    clear hSw hS
    go_simp
  simp only [Act.put, List.setIfInBounds_toArray, List.set_cons_zero, List.set_cons_succ]
  refine wpAnyH_take (i := 10) (oi := { dst := some 4, op := Go.Op.assign (Go.Operand.tmp 14), type := 2, pos := "way.go:23", after := #[{ on := 9, ground := Go.Ground.data }, { on := 6, ground := Go.Ground.chain }, { on := 0, ground := Go.Ground.phase }, { on := 1, ground := Go.Ground.phase }, { on := 2, ground := Go.Ground.phase }, { on := 3, ground := Go.Ground.phase }, { on := 4, ground := Go.Ground.phase }, { on := 5, ground := Go.Ground.phase }, { on := 6, ground := Go.Ground.phase }, { on := 7, ground := Go.Ground.phase }, { on := 8, ground := Go.Ground.phase }, { on := 9, ground := Go.Ground.phase }], guard := none }) (v := .int .i64 (c : Int)) rfl (by kernel_rfl) (by kernel_rfl) (by kernel_rfl) (fun _ _ _ h => h) (Or.inl ⟨by kernel_rfl, ?_⟩) hS ?_
  · intro w5 hSw
    clear hSw hS
    go_simp
  simp only [Act.put, List.setIfInBounds_toArray, List.set_cons_zero, List.set_cons_succ]
  have HU2 := Hid.of (HU1.out.trans hS)
  have HB2 : Hid (_ ∧ _ ∧ _) := ⟨hS.at HB.out.1, hS.at HB.out.2.1, hS.at HB.out.2.2⟩
  clear hS HB HU1 c0 c1 HS HL hs hl hk e1 hl1 hwf hwn hun hwl hwc hn1b hnb hlb
  generalize w3 = V at HU2 HB2 ⊢
  have c0 := cell_at (i := 0) (v := .int .i64 (a : Int)) HB2.out.1 rfl
  have c1 := cell_at (i := 1) (v := .int .i64 (b : Int)) HB2.out.1 rfl
  refine wpAnyH_done (by kernel_rfl) ?_ _
  go_wp2_with fail
  refine wp_region_held_drew (S := fun w2 => w2.cell? ⟨w.heap.size, 0, none⟩ = some (.int .i64 (a : Int)) ∧ w2.cell? ⟨w.heap.size, 1, none⟩ = some (.int .i64 (b : Int))) (by kernel_rfl) ⟨c0, c1⟩ (fun hS => ?_)
  refine wpAnyH_take (i := 0) (oi := { dst := some 15, op := Go.Op.fieldAddr 41 (Go.Operand.tmp 1) 0, type := 0, pos := "way.go:24", after := #[], guard := none }) (v := .pointer (some ⟨w.heap.size, 0, none⟩)) rfl (by kernel_rfl) (by kernel_rfl) (by kernel_rfl) (fun _ _ _ h => h) (Or.inl ⟨by kernel_rfl, ?_⟩) hS ?_
  · intro w5 hSw
    clear hSw hS
    go_simp
  simp only [Act.put, List.setIfInBounds_toArray, List.set_cons_zero, List.set_cons_succ]
  refine wpAnyH_take (i := 1) (oi := { dst := some 16, op := Go.Op.load 2 (Go.Operand.tmp 15), type := 2, pos := "way.go:24", after := #[{ on := 0, ground := Go.Ground.data }], guard := none }) (v := .int .i64 (a : Int)) rfl (by kernel_rfl) (by kernel_rfl) (by kernel_rfl) (fun _ _ _ h => h) (Or.inl ⟨by kernel_rfl, ?_⟩) hS ?_
  · intro w5 hSw
    have h0 := hSw.1
    have h1 := hSw.2
    clear hSw hS
    go_simp
  simp only [Act.put, List.setIfInBounds_toArray, List.set_cons_zero, List.set_cons_succ]
  refine wpAnyH_take (i := 2) (oi := { dst := some 17, op := Go.Op.move (Go.Operand.tmp 4), type := 2, pos := "way.go:24", after := #[], guard := none }) (v := .int .i64 (c : Int)) rfl (by kernel_rfl) (by kernel_rfl) (by kernel_rfl) (fun _ _ _ h => h) (Or.inl ⟨by kernel_rfl, ?_⟩) hS ?_
  · intro w5 hSw
    clear hSw hS
    go_simp
  simp only [Act.put, List.setIfInBounds_toArray, List.set_cons_zero, List.set_cons_succ]
  refine wpAnyH_take (i := 3) (oi := { dst := some 18, op := Go.Op.build 41 #[(0, Go.Operand.tmp 16), (1, Go.Operand.tmp 17)], type := 41, pos := "way.go:24", after := #[{ on := 1, ground := Go.Ground.data }, { on := 2, ground := Go.Ground.data }], guard := none }) (v := sp a c) rfl (by kernel_rfl) (by kernel_rfl) (by kernel_rfl) (fun _ _ _ h => h) (Or.inl ⟨by kernel_rfl, ?_⟩) hS ?_
  · intro w5 hSw
    clear hSw hS
    go_simp
  simp only [Act.put, List.setIfInBounds_toArray, List.set_cons_zero, List.set_cons_succ]
  refine wpAnyH_take (i := 4) (oi := { dst := some 19, op := Go.Op.move (Go.Operand.tmp 4), type := 2, pos := "way.go:24", after := #[{ on := 8, ground := Go.Ground.gcOnly Go.Departure.lateStores }], guard := none }) (v := .int .i64 (c : Int)) rfl (by kernel_rfl) (by kernel_rfl) (by kernel_rfl) (fun _ _ _ h => h) (Or.inl ⟨by kernel_rfl, ?_⟩) hS ?_
  · intro w5 hSw
    clear hSw hS
    go_simp
  simp only [Act.put, List.setIfInBounds_toArray, List.set_cons_zero, List.set_cons_succ]
  refine wpAnyH_take (i := 5) (oi := { dst := some 20, op := Go.Op.fieldAddr 41 (Go.Operand.tmp 1) 1, type := 0, pos := "way.go:24", after := #[{ on := 8, ground := Go.Ground.gcOnly Go.Departure.lateStores }], guard := none }) (v := .pointer (some ⟨w.heap.size, 1, none⟩)) rfl (by kernel_rfl) (by kernel_rfl) (by kernel_rfl) (fun _ _ _ h => h) (Or.inl ⟨by kernel_rfl, ?_⟩) hS ?_
  · intro w5 hSw
    clear hSw hS
    go_simp
  simp only [Act.put, List.setIfInBounds_toArray, List.set_cons_zero, List.set_cons_succ]
  refine wpAnyH_take (i := 6) (oi := { dst := some 21, op := Go.Op.load 2 (Go.Operand.tmp 20), type := 2, pos := "way.go:24", after := #[{ on := 5, ground := Go.Ground.data }, { on := 8, ground := Go.Ground.gcOnly Go.Departure.lateStores }], guard := none }) (v := .int .i64 (b : Int)) rfl (by kernel_rfl) (by kernel_rfl) (by kernel_rfl) (fun _ _ _ h => h) (Or.inl ⟨by kernel_rfl, ?_⟩) hS ?_
  · intro w5 hSw
    have h0 := hSw.1
    have h1 := hSw.2
    clear hSw hS
    go_simp
  simp only [Act.put, List.setIfInBounds_toArray, List.set_cons_zero, List.set_cons_succ]
  refine wpAnyH_take (i := 7) (oi := { dst := some 22, op := Go.Op.build 41 #[(0, Go.Operand.tmp 19), (1, Go.Operand.tmp 21)], type := 41, pos := "way.go:24", after := #[{ on := 4, ground := Go.Ground.data }, { on := 6, ground := Go.Ground.data }, { on := 8, ground := Go.Ground.gcOnly Go.Departure.lateStores }], guard := none }) (v := sp c b) rfl (by kernel_rfl) (by kernel_rfl) (by kernel_rfl) (fun _ _ _ h => h) (Or.inl ⟨by kernel_rfl, ?_⟩) hS ?_
  · intro w5 hSw
    clear hSw hS
    go_simp
  simp only [Act.put, List.setIfInBounds_toArray, List.set_cons_zero, List.set_cons_succ]
  refine wpAnyH_ready (rs := [8]) (by kernel_rfl) (by simp) ?_
  refine AllReadyH.cons (o := { dst := none, op := Go.Op.store 41 (Go.Operand.tmp 2) (Go.Operand.tmp 18), type := 0, pos := "way.go:24", after := #[{ on := 3, ground := Go.Ground.data }, { on := 0, ground := Go.Ground.phase }, { on := 1, ground := Go.Ground.phase }, { on := 2, ground := Go.Ground.phase }, { on := 3, ground := Go.Ground.phase }, { on := 4, ground := Go.Ground.textOnly Go.Departure.lateStores }, { on := 5, ground := Go.Ground.textOnly Go.Departure.lateStores }, { on := 6, ground := Go.Ground.textOnly Go.Departure.lateStores }, { on := 7, ground := Go.Ground.textOnly Go.Departure.lateStores }], guard := none }) rfl (fun K hK => ?_) AllReadyH.nil
  rw [if_pos (by kernel_rfl)]
  have d0 := cell_at (i := 0) (v := .int .i64 0) HB2.out.2.1 rfl
  have d1 := cell_at (i := 1) (v := .int .i64 0) HB2.out.2.1 rfl
  have f0 := thaw_at (i := 0) HB2.out.2.1
  have f1 := thaw_at (i := 1) HB2.out.2.1
  go_simp
  clear d0 d1 f0 f1
  obtain ⟨V1, hV1⟩ : ∃ V1, V1 = (put2 V (w.heap.size + 1) (.int .i64 (a : Int)) (.int .i64 (c : Int))).drew := ⟨_, rfl⟩
  have HU3 : Hid (Up w V1) := by rw [hV1]; exact (HU2.out.put2 (by omega) _ _).drew
  have HB3 : Hid (V1.heap[w.heap.size]? = some (.cells #[.int .i64 (a : Int), .int .i64 (b : Int)] 41) ∧ V1.heap[w.heap.size + 1]? = some (.cells #[.int .i64 (a : Int), .int .i64 (c : Int)] 41) ∧ V1.heap[w.heap.size + 1 + 1]? = some (.cells #[.int .i64 0, .int .i64 0] 41)) := by
    rw [hV1]
    exact ⟨(put2_other (by omega)).trans HB2.out.1, put2_at HB2.out.2.1, (put2_other (by omega)).trans HB2.out.2.2⟩
  have hS2 : V1.cell? ⟨w.heap.size, 0, none⟩ = some (.int .i64 (a : Int)) ∧ V1.cell? ⟨w.heap.size, 1, none⟩ = some (.int .i64 (b : Int)) := ⟨cell_at HB3.out.1 rfl, cell_at HB3.out.1 rfl⟩
  have hg : ∀ A, Hid (K A V1) → K A ((V.setCell ⟨w.heap.size + 1, 0, none⟩ (.int .i64 (a : Int))).setCell ⟨w.heap.size + 1, 1, none⟩ (.int .i64 (c : Int))).drew := by rw [hV1]; exact fun _ h => h
  refine hg _ ?_
  clear hg hS c0 c1 HU2 HB2 hV1
  refine hK.out _ _ hS2 (fun hS => ?_)
  clear hK hS2 K
  refine wpAnyH_ready (rs := [9]) (by kernel_rfl) (by simp) ?_
  refine AllReadyH.cons (o := { dst := none, op := Go.Op.store 41 (Go.Operand.tmp 3) (Go.Operand.tmp 22), type := 0, pos := "way.go:24", after := #[{ on := 7, ground := Go.Ground.data }, { on := 8, ground := Go.Ground.chain }, { on := 0, ground := Go.Ground.phase }, { on := 1, ground := Go.Ground.phase }, { on := 2, ground := Go.Ground.phase }, { on := 3, ground := Go.Ground.phase }, { on := 4, ground := Go.Ground.phase }, { on := 5, ground := Go.Ground.phase }, { on := 6, ground := Go.Ground.phase }, { on := 7, ground := Go.Ground.phase }, { on := 8, ground := Go.Ground.phase }], guard := none }) rfl (fun K hK => ?_) AllReadyH.nil
  rw [if_pos (by kernel_rfl)]
  have d0 := cell_at (i := 0) (v := .int .i64 0) HB3.out.2.2 rfl
  have d1 := cell_at (i := 1) (v := .int .i64 0) HB3.out.2.2 rfl
  have f0 := thaw_at (i := 0) HB3.out.2.2
  have f1 := thaw_at (i := 1) HB3.out.2.2
  go_simp
  clear d0 d1 f0 f1
  obtain ⟨V2, hV2⟩ : ∃ V2, V2 = put2 V1 (w.heap.size + 1 + 1) (.int .i64 (c : Int)) (.int .i64 (b : Int)) := ⟨_, rfl⟩
  have HU4 : Hid (Up w V2) := by rw [hV2]; exact HU3.out.put2 (by omega) _ _
  have HB4 : Hid (V2.heap[w.heap.size]? = some (.cells #[.int .i64 (a : Int), .int .i64 (b : Int)] 41) ∧ V2.heap[w.heap.size + 1]? = some (.cells #[.int .i64 (a : Int), .int .i64 (c : Int)] 41) ∧ V2.heap[w.heap.size + 1 + 1]? = some (.cells #[.int .i64 (c : Int), .int .i64 (b : Int)] 41)) := by
    rw [hV2]
    exact ⟨(put2_other (by omega)).trans HB3.out.1, (put2_other (by omega)).trans HB3.out.2.1, put2_at HB3.out.2.2⟩
  have hS2 : V2.cell? ⟨w.heap.size, 0, none⟩ = some (.int .i64 (a : Int)) ∧ V2.cell? ⟨w.heap.size, 1, none⟩ = some (.int .i64 (b : Int)) := ⟨cell_at HB4.out.1 rfl, cell_at HB4.out.1 rfl⟩
  have hg : ∀ A, Hid (K A V2) → K A ((V1.setCell ⟨w.heap.size + 1 + 1, 0, none⟩ (.int .i64 (c : Int))).setCell ⟨w.heap.size + 1 + 1, 1, none⟩ (.int .i64 (b : Int))) := by rw [hV2]; exact fun _ h => h
  refine hg _ ?_
  clear hg hS HU3 HB3 hV2
  refine hK.out _ _ hS2 (fun hS => ?_)
  clear hK hS2 K hS
  refine wpAnyH_done (by kernel_rfl) ?_ _
  have r0 := cell_at (i := 0) (v := .int .i64 (a : Int)) HB4.out.2.1 rfl
  have r1 := cell_at (i := 1) (v := .int .i64 (c : Int)) HB4.out.2.1 rfl
  have r2 := cell_at (i := 0) (v := .int .i64 (c : Int)) HB4.out.2.2 rfl
  have r3 := cell_at (i := 1) (v := .int .i64 (b : Int)) HB4.out.2.2 rfl
  go_wp2
  refine bodyPost_ret (results_agg2 rfl _ _ _ _ _ _ rfl rfl (range_at HB4.out.2.1) (range_at HB4.out.2.2) Try.underlying41 rfl (by kernel_rfl) (by kernel_rfl)) rfl ?_
  exact ⟨rfl, HU4.out⟩
end Go.Proofs.Ytpjfmkmgfjhnmaa
