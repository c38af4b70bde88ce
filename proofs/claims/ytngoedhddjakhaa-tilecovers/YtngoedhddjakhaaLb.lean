import Derived.Test.YtngoedhddjakhaaLa
import Derived.Test.YtngoedhddjakhaaBz
namespace Go.Proofs.Ytngoedhddjakhaa
open Go.RowKit TileNum
theorem alloc_old {w : World} {o p : Obj} {g : Nat} (h : w.heap[g]? = some p) : (w.alloc o).heap[g]? = some p := by
  show (w.heap.push o)[g]? = _
  rw [Array.getElem?_push]
  have := lt_of_at h
  rw [if_neg (by omega)]
  exact h
theorem cell_at {w : World} {g i : Nat} {cs : Array Value} {t : TypeId} {v : Value} (h : w.heap[g]? = some (.cells cs t)) (hv : cs[i]? = some v) : w.cell? ⟨g, i, none⟩ = some v := by
  simp only [World.cell?, h]
  simpa using hv
theorem Up.at {w w' : World} {g : Nat} {o : Obj} (h : Up w w') (k : w.heap[g]? = some o) : w'.heap[g]? = some o := by
  rw [h.block g (lt_of_at k)]; exact k
theorem thaw_at {w : World} {g i : Nat} {cs : Array Value} {t : TypeId} (h : w.heap[g]? = some (.cells cs t)) : w.frozen? ⟨g, i, none⟩ = false := by
  simp [World.frozen?, h]
theorem results_agg1 {P : Program} {fn : Func} {q : Tmp} {T : TypeId} (h : fn.results = #[.cell q T]) (tmps : Array Value) (w : World) (b : Nat) (cs : List Value) {d : TypeDesc}
    (hp : tmps.getD q undef = .pointer (some ⟨b, 0, none⟩)) (hc : w.rangeAt b 0 cs) (hu : P.underlying T = some d) (hd : d.isRow = true) (hi : (P.info? T).map (·.size) = some cs.length) : (results fn tmps).run P w = .ok (.agg cs.toArray) w := by
  have hp' : tmps[q]?.getD undef = .pointer (some ⟨b, 0, none⟩) := by simpa using hp
  simp [results, h, hp', asAddr, run_loadVar_mid w b 0 T cs _ hc hu hd hi]
theorem range_of {w : World} {g : Nat} {cs : List Value} {t : TypeId} (h : w.heap[g]? = some (.cells cs.toArray t)) : w.rangeAt g 0 cs := by
  intro j v hv
  rw [Nat.zero_add]
  exact cell_at h (by simpa using hv)
/-- a tile in its cells -/
def tc (h : Nat) (t : TT) : List Value := [.int .i64 (h : Int), .int .i64 (t.1 : Int), .int .i64 (t.2.1 : Int), .int .i64 (t.2.2 : Int), .bool false]
def tv (h : Nat) (t : TT) : Value := .agg (tc h t).toArray
/-- five cells of a block written -/
def put5 (V : World) (g : Nat) (a b c d e : Value) : World := ((((V.setCell ⟨g, 0, none⟩ a).setCell ⟨g, 1, none⟩ b).setCell ⟨g, 2, none⟩ c).setCell ⟨g, 3, none⟩ d).setCell ⟨g, 4, none⟩ e
theorem put5_at {V : World} {g : Nat} {p q r s u a b c d e : Value} {t : TypeId} (h : V.heap[g]? = some (.cells #[p, q, r, s, u] t)) : (put5 V g a b c d e).heap[g]? = some (.cells #[a, b, c, d, e] t) := by
  have h1 := heap_setCell_same V g 0 _ t a h
  have h2 := heap_setCell_same _ g 1 _ t b h1
  have h3 := heap_setCell_same _ g 2 _ t c h2
  have h4 := heap_setCell_same _ g 3 _ t d h3
  have h5 := heap_setCell_same _ g 4 _ t e h4
  exact h5
theorem Up.put5 {w V : World} {g : Nat} (h : Up w V) (hg : w.heap.size ≤ g) (a b c d e : Value) : Up w (put5 V g a b c d e) := Below.setCell (Below.setCell (Below.setCell (Below.setCell (Below.setCell h hg _) hg _) hg _) hg _) hg _
set_option maxRecDepth 100000 in
set_option maxHeartbeats 1000000 in
theorem whole_walk (h p l n s : Nat) (h1 : 1 ≤ h) (h8 : h ≤ 8) (hp : p = 2 ^ h) (hs : s ≤ 281474976710656) (w : World) : Calls Try.prog 41 #[ly h s, .int .i64 (l : Int), .int .i64 (n : Int)] w fun e w' => e = .returned (tv h (l, n, wd h (nd h l s) n)) ∧ Up w w' := by
  have HN := fun w => Hid.of (width_walk h p l n s h1 h8 hp hs w)
  unfold ly at HN ⊢
  obtain ⟨z, hz⟩ : ∃ z, z = wd h (nd h l s) n := ⟨_, rfl⟩
  rw [← hz] at HN ⊢
  clear hz hp h1 h8 hs
  go_enter Try.func41, Try.ntmps41
  go_wp2_with fail
  obtain ⟨W, hW⟩ : ∃ W, W = (w.alloc (Obj.cells #[.int .i64 (h : Int), .int .i64 (s : Int)] 80)).alloc (Obj.cells #[.int .i64 0, .int .i64 0, .int .i64 0, .int .i64 0, .bool false] 39) := ⟨_, rfl⟩
  rw [← hW]
  have HB : Hid (W.heap[w.heap.size]? = some (.cells #[.int .i64 (h : Int), .int .i64 (s : Int)] 80) ∧ W.heap[w.heap.size + 1]? = some (.cells #[.int .i64 0, .int .i64 0, .int .i64 0, .int .i64 0, .bool false] 39)) := by
    rw [hW]
    refine ⟨alloc_old (alloc_new _ _), ?_⟩
    have := alloc_new (w.alloc (Obj.cells #[.int .i64 (h : Int), .int .i64 (s : Int)] 80)) (Obj.cells #[.int .i64 0, .int .i64 0, .int .i64 0, .int .i64 0, .bool false] 39)
    rwa [alloc_size] at this
  have HU : Hid (Up w W) := by rw [hW]; exact ((Up.refl w).alloc _).alloc _
  clear hW
  have c0 := cell_at (i := 0) (v := .int .i64 (h : Int)) HB.out.1 rfl
  have c1 := cell_at (i := 1) (v := .int .i64 (s : Int)) HB.out.1 rfl
  have hWs := lt_of_at HB.out.2
  refine wp_region_held_drew (S := fun w2 => Below (w.heap.size + 1) W w2) (by kernel_rfl) (Below.refl _ _).drew (fun hS => ?_)
  refine wpAnyH_take (i := 0) (oi := { dst := some 7, op := Go.Op.fieldAddr 80 (Go.Operand.tmp 3) 0, type := 0, pos := "tile.go:76", after := #[], guard := none }) (v := .pointer (some ⟨w.heap.size, 0, none⟩)) rfl (by kernel_rfl) (by kernel_rfl) (by kernel_rfl) (fun _ _ _ h => h) (Or.inl ⟨by kernel_rfl, ?_⟩) hS ?_
  · intro w5 hSw
    clear hSw hS
    go_simp
  simp only [Act.put, List.setIfInBounds_toArray, List.set_cons_zero, List.set_cons_succ]
  refine wpAnyH_take (i := 1) (oi := { dst := some 8, op := Go.Op.load 3 (Go.Operand.tmp 7), type := 3, pos := "tile.go:76", after := #[{ on := 0, ground := Go.Ground.data }], guard := none }) (v := .int .i64 (h : Int)) rfl (by kernel_rfl) (by kernel_rfl) (by kernel_rfl) (fun _ _ _ h => h) (Or.inl ⟨by kernel_rfl, ?_⟩) hS ?_
  · intro w5 hSw
    have h0 := (Below.cell hSw (p := ⟨w.heap.size, 0, none⟩) (by simp)).trans c0
    have h1 := (Below.cell hSw (p := ⟨w.heap.size, 1, none⟩) (by simp)).trans c1
    clear hSw hS
    go_simp
  simp only [Act.put, List.setIfInBounds_toArray, List.set_cons_zero, List.set_cons_succ]
  refine wpAnyH_take (i := 2) (oi := { dst := some 9, op := Go.Op.move (Go.Operand.tmp 1), type := 3, pos := "tile.go:76", after := #[], guard := none }) (v := .int .i64 (l : Int)) rfl (by kernel_rfl) (by kernel_rfl) (by kernel_rfl) (fun _ _ _ h => h) (Or.inl ⟨by kernel_rfl, ?_⟩) hS ?_
  · intro w5 hSw
    clear hSw hS
    go_simp
  simp only [Act.put, List.setIfInBounds_toArray, List.set_cons_zero, List.set_cons_succ]
  refine wpAnyH_take (i := 3) (oi := { dst := some 10, op := Go.Op.move (Go.Operand.tmp 2), type := 2, pos := "tile.go:76", after := #[], guard := none }) (v := .int .i64 (n : Int)) rfl (by kernel_rfl) (by kernel_rfl) (by kernel_rfl) (fun _ _ _ h => h) (Or.inl ⟨by kernel_rfl, ?_⟩) hS ?_
  · intro w5 hSw
    clear hSw hS
    go_simp
  simp only [Act.put, List.setIfInBounds_toArray, List.set_cons_zero, List.set_cons_succ]
  refine wpAnyH_take (i := 4) (oi := { dst := some 11, op := Go.Op.load 80 (Go.Operand.tmp 3), type := 80, pos := "tile.go:76", after := #[], guard := none }) (v := .agg #[.int .i64 (h : Int), .int .i64 (s : Int)]) rfl (by kernel_rfl) (by kernel_rfl) (by kernel_rfl) (fun _ _ _ h => h) (Or.inl ⟨by kernel_rfl, ?_⟩) hS ?_
  · intro w5 hSw
    have h0 := (Below.cell hSw (p := ⟨w.heap.size, 0, none⟩) (by simp)).trans c0
    have h1 := (Below.cell hSw (p := ⟨w.heap.size, 1, none⟩) (by simp)).trans c1
    clear hSw hS
    go_simp
  simp only [Act.put, List.setIfInBounds_toArray, List.set_cons_zero, List.set_cons_succ]
  refine wpAnyH_take (i := 5) (oi := { dst := some 12, op := Go.Op.move (Go.Operand.tmp 1), type := 3, pos := "tile.go:76", after := #[], guard := none }) (v := .int .i64 (l : Int)) rfl (by kernel_rfl) (by kernel_rfl) (by kernel_rfl) (fun _ _ _ h => h) (Or.inl ⟨by kernel_rfl, ?_⟩) hS ?_
  · intro w5 hSw
    clear hSw hS
    go_simp
  simp only [Act.put, List.setIfInBounds_toArray, List.set_cons_zero, List.set_cons_succ]
  refine wpAnyH_take (i := 6) (oi := { dst := some 13, op := Go.Op.move (Go.Operand.tmp 2), type := 2, pos := "tile.go:76", after := #[], guard := none }) (v := .int .i64 (n : Int)) rfl (by kernel_rfl) (by kernel_rfl) (by kernel_rfl) (fun _ _ _ h => h) (Or.inl ⟨by kernel_rfl, ?_⟩) hS ?_
  · intro w5 hSw
    clear hSw hS
    go_simp
  simp only [Act.put, List.setIfInBounds_toArray, List.set_cons_zero, List.set_cons_succ]
  refine wpAnyH_ready (rs := [7]) (by kernel_rfl) (by simp) ?_
  refine AllReadyH.cons (o := { dst := some 14, op := Go.Op.call { callee := Go.Callee.value (Go.Operand.func 46), args := #[Go.Operand.tmp 11, Go.Operand.tmp 12, Go.Operand.tmp 13], argTypes := #[80, 3, 2] }, type := 3, pos := "tile.go:76", after := #[{ on := 4, ground := Go.Ground.data }, { on := 5, ground := Go.Ground.data }, { on := 6, ground := Go.Ground.data }], guard := none }) rfl (fun K hK => ?_) AllReadyH.nil
  rw [if_pos (by kernel_rfl)]
  go_simp
  refine ((HN _).out).mono ?_
  rintro e w2 ⟨rfl, u⟩
  dsimp only
  have HB2 := Hid.of (u.at (show W.drew.heap[w.heap.size + 1]? = _ from HB.out.2))
  have HU2 := Hid.of (HU.out.drew.trans u)
  have hS2 : Below (w.heap.size + 1) W w2 := Below.trans hS (Below.mono u (by show w.heap.size + 1 ≤ W.heap.size; omega))
  clear hS u
  refine hK.out _ _ hS2 (fun hS => ?_)
  clear hK hS2 K
  refine wpAnyH_take (i := 8) (oi := { dst := some 15, op := Go.Op.build 39 #[(0, Go.Operand.tmp 8), (1, Go.Operand.tmp 9), (2, Go.Operand.tmp 10), (3, Go.Operand.tmp 14)], type := 39, pos := "tile.go:76", after := #[{ on := 1, ground := Go.Ground.data }, { on := 2, ground := Go.Ground.data }, { on := 3, ground := Go.Ground.data }, { on := 7, ground := Go.Ground.data }], guard := none }) (v := .agg #[.int .i64 (h : Int), .int .i64 (l : Int), .int .i64 (n : Int), .int .i64 (z : Int), .bool false]) rfl (by kernel_rfl) (by kernel_rfl) (by kernel_rfl) (fun _ _ _ h => h) (Or.inl ⟨by kernel_rfl, ?_⟩) hS ?_
  · intro w5 hSw
    clear hSw hS
    go_simp
  simp only [Act.put, List.setIfInBounds_toArray, List.set_cons_zero, List.set_cons_succ]
  refine wpAnyH_ready (rs := [9]) (by kernel_rfl) (by simp) ?_
  refine AllReadyH.cons (o := { dst := none, op := Go.Op.store 39 (Go.Operand.tmp 6) (Go.Operand.tmp 15), type := 0, pos := "tile.go:76", after := #[{ on := 8, ground := Go.Ground.data }, { on := 7, ground := Go.Ground.chain }, { on := 0, ground := Go.Ground.phase }, { on := 1, ground := Go.Ground.phase }, { on := 2, ground := Go.Ground.phase }, { on := 3, ground := Go.Ground.phase }, { on := 4, ground := Go.Ground.phase }, { on := 5, ground := Go.Ground.phase }, { on := 6, ground := Go.Ground.phase }, { on := 7, ground := Go.Ground.phase }, { on := 8, ground := Go.Ground.phase }], guard := none }) rfl (fun K hK => ?_) AllReadyH.nil
  rw [if_pos (by kernel_rfl)]
  have d0 := cell_at (i := 0) (v := .int .i64 0) HB2.out rfl
  have d1 := cell_at (i := 1) (v := .int .i64 0) HB2.out rfl
  have d2 := cell_at (i := 2) (v := .int .i64 0) HB2.out rfl
  have d3 := cell_at (i := 3) (v := .int .i64 0) HB2.out rfl
  have d4 := cell_at (i := 4) (v := .bool false) HB2.out rfl
  have f0 := thaw_at (i := 0) HB2.out
  have f1 := thaw_at (i := 1) HB2.out
  have f2 := thaw_at (i := 2) HB2.out
  have f3 := thaw_at (i := 3) HB2.out
  have f4 := thaw_at (i := 4) HB2.out
  go_simp
  clear d0 d1 d2 d3 d4 f0 f1 f2 f3 f4
  obtain ⟨V, hV⟩ : ∃ V, V = put5 w2 (w.heap.size + 1) (.int .i64 (h : Int)) (.int .i64 (l : Int)) (.int .i64 (n : Int)) (.int .i64 (z : Int)) (.bool false) := ⟨_, rfl⟩
  have HV : Hid (V.heap[w.heap.size + 1]? = some (.cells (tc h (l, n, z)).toArray 39)) := by rw [hV]; exact put5_at HB2.out
  have HU3 : Hid (Up w V) := by rw [hV]; exact HU2.out.put5 (by omega) _ _ _ _ _
  have hS3 : Below (w.heap.size + 1) W V := by rw [hV]; exact Below.setCell (Below.setCell (Below.setCell (Below.setCell (Below.setCell hS (Nat.le_refl _) _) (Nat.le_refl _) _) (Nat.le_refl _) _) (Nat.le_refl _) _) (Nat.le_refl _) _
  have hg : ∀ A, Hid (K A V) → K A (((((w2.setCell ⟨w.heap.size + 1, 0, none⟩ (.int .i64 (h : Int))).setCell ⟨w.heap.size + 1, 1, none⟩ (.int .i64 (l : Int))).setCell ⟨w.heap.size + 1, 2, none⟩ (.int .i64 (n : Int))).setCell ⟨w.heap.size + 1, 3, none⟩ (.int .i64 (z : Int))).setCell ⟨w.heap.size + 1, 4, none⟩ (.bool false)) := by rw [hV]; exact fun _ h => h
  refine hg _ ?_
  clear hg hV
  refine hK.out _ _ hS3 (fun hS4 => ?_)
  clear hK K hS hS3 hS4
  refine wpAnyH_done (by kernel_rfl) ?_ _
  go_wp2
  refine bodyPost_ret (results_agg1 rfl _ _ (w.heap.size + 1) (tc h (l, n, z)) rfl (range_of HV.out) Try.underlying39 rfl (by kernel_rfl)) rfl ?_
  exact ⟨rfl, HU3.out⟩
set_option maxRecDepth 100000 in
set_option maxHeartbeats 1000000 in
theorem news_walk (h p l o s : Nat) (h1 : 1 ≤ h) (h8 : h ≤ 8) (hp : p = 2 ^ h) (hs : s ≤ 281474976710656) (ho : o ≤ 281474976710656) (hlt : nd h l o < nd h l s) (w : World) : Calls Try.prog 40 #[ly h o, ly h s, .int .i64 (l : Int)] w fun e w' => e = .returned (.tuple #[.int .i64 ((nd h l o / p : Nat) : Int), .int .i64 (((nd h l s - 1) / p + 1 : Nat) : Int)]) ∧ Up w w' := by
  have HN := fun w => Hid.of (nodes_walk h l s h1 h8 hs w)
  have HO := fun w => Hid.of (nodes_walk h l o h1 h8 ho w)
  have hc := Nat.le_trans (nd_le h l s) hs
  have hd := Nat.le_trans (nd_le h l o) ho
  unfold ly at HN HO ⊢
  generalize nd h l s = c at *
  generalize nd h l o = d at *
  obtain ⟨c1, rfl⟩ : ∃ c1, c = c1 + 1 := ⟨c - 1, by omega⟩
  simp only [Nat.add_sub_cancel]
  have hq1 : (d : Int) / 2 ^ h = ((d / p : Nat) : Int) := by rw [hp]; simp
  have hq2 : (c1 : Int) / 2 ^ h = ((c1 / p : Nat) : Int) := by rw [hp]; simp
  have hq3 : c1 / p ≤ c1 := Nat.div_le_self _ _
  have hsub : ((c1 : Int) + 1) - 1 = (c1 : Int) := by omega
  generalize d / p = q1 at *
  generalize c1 / p = q2 at *
  have hw1 : IntKind.i64.wrap ((q2 : Int) + 1) = (q2 : Int) + 1 := by rw [IntKind.wrap_i64]; omega
  clear hp hs ho
  go_enter Try.func40, Try.ntmps40
  go_wp2_with fail
  refine (HN _).out.mono ?_
  rintro e w1 ⟨rfl, u1⟩
  obtain ⟨W, hW⟩ : ∃ W, W = (w.alloc (Obj.cells #[.int .i64 (h : Int), .int .i64 (o : Int)] 80)).alloc (Obj.cells #[.int .i64 (h : Int), .int .i64 (s : Int)] 80) := ⟨_, rfl⟩
  rw [← hW] at u1
  have a0 : W.cell? ⟨w.heap.size, 0, none⟩ = some (.int .i64 (h : Int)) := by rw [hW]; simp
  have a1 : W.cell? ⟨w.heap.size, 1, none⟩ = some (.int .i64 (o : Int)) := by rw [hW]; simp
  have b0 : W.cell? ⟨w.heap.size + 1, 0, none⟩ = some (.int .i64 (h : Int)) := by rw [hW]; simp
  have HU : Hid (Up w W) := by rw [hW]; exact ((Up.refl w).alloc _).alloc _
  clear hW
  have a0' := u1.cell a0
  have a1' := u1.cell a1
  have b0' := u1.cell b0
  have HU1 := Hid.of (HU.out.trans u1)
  clear u1 a0 a1 b0 HU
  dsimp only
  go_wp2_with fail
  refine wp_region_held_drew (S := fun w2 => Up w1 w2) (by kernel_rfl) (Up.refl _).drew (fun hS => ?_)
  refine wpAnyH_take (i := 0) (oi := { dst := some 13, op := Go.Op.load 80 (Go.Operand.tmp 3), type := 80, pos := "fresh.go:38", after := #[], guard := none }) (v := .agg #[.int .i64 (h : Int), .int .i64 (o : Int)]) rfl (by kernel_rfl) (by kernel_rfl) (by kernel_rfl) (fun _ _ _ h => h) (Or.inl ⟨by kernel_rfl, ?_⟩) hS ?_
  · intro w5 hSw
    have h0 := hSw.cell a0'
    have h1 := hSw.cell a1'
    have h2 := hSw.cell b0'
    clear hSw hS
    go_simp
  simp only [Act.put, List.setIfInBounds_toArray, List.set_cons_zero, List.set_cons_succ]
  refine wpAnyH_take (i := 1) (oi := { dst := some 14, op := Go.Op.move (Go.Operand.tmp 2), type := 3, pos := "fresh.go:38", after := #[], guard := none }) (v := .int .i64 (l : Int)) rfl (by kernel_rfl) (by kernel_rfl) (by kernel_rfl) (fun _ _ _ h => h) (Or.inl ⟨by kernel_rfl, ?_⟩) hS ?_
  · intro w5 hSw
    clear hSw hS
    go_simp
  simp only [Act.put, List.setIfInBounds_toArray, List.set_cons_zero, List.set_cons_succ]
  refine wpAnyH_take (i := 3) (oi := { dst := some 16, op := Go.Op.fieldAddr 80 (Go.Operand.tmp 4) 0, type := 0, pos := "fresh.go:38", after := #[], guard := none }) (v := .pointer (some ⟨w.heap.size + 1, 0, none⟩)) rfl (by kernel_rfl) (by kernel_rfl) (by kernel_rfl) (fun _ _ _ h => h) (Or.inl ⟨by kernel_rfl, ?_⟩) hS ?_
  · intro w5 hSw
    clear hSw hS
    go_simp
  simp only [Act.put, List.setIfInBounds_toArray, List.set_cons_zero, List.set_cons_succ]
  refine wpAnyH_take (i := 4) (oi := { dst := some 17, op := Go.Op.load 3 (Go.Operand.tmp 16), type := 3, pos := "fresh.go:38", after := #[{ on := 3, ground := Go.Ground.data }], guard := none }) (v := .int .i64 (h : Int)) rfl (by kernel_rfl) (by kernel_rfl) (by kernel_rfl) (fun _ _ _ h => h) (Or.inl ⟨by kernel_rfl, ?_⟩) hS ?_
  · intro w5 hSw
    have h0 := hSw.cell a0'
    have h1 := hSw.cell a1'
    have h2 := hSw.cell b0'
    clear hSw hS
    go_simp
  simp only [Act.put, List.setIfInBounds_toArray, List.set_cons_zero, List.set_cons_succ]
  refine wpAnyH_take (i := 6) (oi := { dst := some 19, op := Go.Op.move (Go.Operand.tmp 8), type := 2, pos := "fresh.go:38", after := #[{ on := 11, ground := Go.Ground.gcOnly Go.Departure.lateStores }], guard := none }) (v := .int .i64 (c1 : Int)) rfl (by kernel_rfl) (by kernel_rfl) (by kernel_rfl) (fun _ _ _ h => h) (Or.inl ⟨by kernel_rfl, ?_⟩) hS ?_
  · intro w5 hSw
    clear hSw hS
    go_simp
  simp only [Act.put, List.setIfInBounds_toArray, List.set_cons_zero, List.set_cons_succ]
  refine wpAnyH_take (i := 7) (oi := { dst := some 20, op := Go.Op.fieldAddr 80 (Go.Operand.tmp 4) 0, type := 0, pos := "fresh.go:38", after := #[{ on := 11, ground := Go.Ground.gcOnly Go.Departure.lateStores }], guard := none }) (v := .pointer (some ⟨w.heap.size + 1, 0, none⟩)) rfl (by kernel_rfl) (by kernel_rfl) (by kernel_rfl) (fun _ _ _ h => h) (Or.inl ⟨by kernel_rfl, ?_⟩) hS ?_
  · intro w5 hSw
    clear hSw hS
    go_simp
  simp only [Act.put, List.setIfInBounds_toArray, List.set_cons_zero, List.set_cons_succ]
  refine wpAnyH_take (i := 8) (oi := { dst := some 21, op := Go.Op.load 3 (Go.Operand.tmp 20), type := 3, pos := "fresh.go:38", after := #[{ on := 7, ground := Go.Ground.data }, { on := 11, ground := Go.Ground.gcOnly Go.Departure.lateStores }], guard := none }) (v := .int .i64 (h : Int)) rfl (by kernel_rfl) (by kernel_rfl) (by kernel_rfl) (fun _ _ _ h => h) (Or.inl ⟨by kernel_rfl, ?_⟩) hS ?_
  · intro w5 hSw
    have h0 := hSw.cell a0'
    have h1 := hSw.cell a1'
    have h2 := hSw.cell b0'
    clear hSw hS
    go_simp
  simp only [Act.put, List.setIfInBounds_toArray, List.set_cons_zero, List.set_cons_succ]
  refine wpAnyH_take (i := 9) (oi := { dst := some 22, op := Go.Op.binOp Go.BinOp.shr 2 (Go.Operand.tmp 19) (Go.Operand.tmp 21) 3, type := 2, pos := "fresh.go:38", after := #[{ on := 6, ground := Go.Ground.data }, { on := 8, ground := Go.Ground.data }, { on := 11, ground := Go.Ground.gcOnly Go.Departure.lateStores }], guard := none }) (v := .int .i64 (q2 : Int)) rfl (by kernel_rfl) (by kernel_rfl) (by kernel_rfl) (fun _ _ _ h => h) (Or.inl ⟨by kernel_rfl, ?_⟩) hS ?_
  · intro w5 hSw
    clear hSw hS
    go_simp
  simp only [Act.put, List.setIfInBounds_toArray, List.set_cons_zero, List.set_cons_succ]
  refine wpAnyH_take (i := 10) (oi := { dst := some 23, op := Go.Op.binOp Go.BinOp.add 2 (Go.Operand.tmp 22) (Go.Operand.const (Go.Value.int Go.IntKind.i64 1)) 2, type := 2, pos := "fresh.go:38", after := #[{ on := 9, ground := Go.Ground.data }, { on := 11, ground := Go.Ground.gcOnly Go.Departure.lateStores }], guard := none }) (v := .int .i64 ((q2 : Int) + 1)) rfl (by kernel_rfl) (by kernel_rfl) (by kernel_rfl) (fun _ _ _ h => h) (Or.inl ⟨by kernel_rfl, ?_⟩) hS ?_
  · intro w5 hSw
    clear hSw hS
    go_simp
  simp only [Act.put, List.setIfInBounds_toArray, List.set_cons_zero, List.set_cons_succ]
  refine wpAnyH_ready (rs := [2]) (by kernel_rfl) (by simp) ?_
  refine AllReadyH.cons (o := { dst := some 15, op := Go.Op.call { callee := Go.Callee.value (Go.Operand.func 39), args := #[Go.Operand.tmp 13, Go.Operand.tmp 14], argTypes := #[80, 3] }, type := 2, pos := "fresh.go:38", after := #[{ on := 0, ground := Go.Ground.data }, { on := 1, ground := Go.Ground.data }], guard := none }) rfl (fun K hK => ?_) AllReadyH.nil
  rw [if_pos (by kernel_rfl)]
  go_simp
  refine ((HO _).out).mono ?_
  rintro e w2 ⟨rfl, u⟩
  dsimp only
  have hS2 := hS.trans u
  clear hS u
  refine hK.out _ _ hS2 (fun hS => ?_)
  clear hK hS2 K
  refine wpAnyH_take (i := 5) (oi := { dst := some 18, op := Go.Op.binOp Go.BinOp.shr 2 (Go.Operand.tmp 15) (Go.Operand.tmp 17) 3, type := 2, pos := "fresh.go:38", after := #[{ on := 2, ground := Go.Ground.data }, { on := 4, ground := Go.Ground.data }], guard := none }) (v := .int .i64 (q1 : Int)) rfl (by kernel_rfl) (by kernel_rfl) (by kernel_rfl) (fun _ _ _ h => h) (Or.inl ⟨by kernel_rfl, ?_⟩) hS ?_
  · intro w5 hSw
    clear hSw hS
    go_simp
  simp only [Act.put, List.setIfInBounds_toArray, List.set_cons_zero, List.set_cons_succ]
  refine wpAnyH_take (i := 11) (oi := { dst := some 6, op := Go.Op.assign (Go.Operand.tmp 18), type := 2, pos := "fresh.go:38", after := #[{ on := 5, ground := Go.Ground.data }, { on := 2, ground := Go.Ground.chain }, { on := 0, ground := Go.Ground.phase }, { on := 1, ground := Go.Ground.phase }, { on := 2, ground := Go.Ground.phase }, { on := 3, ground := Go.Ground.phase }, { on := 4, ground := Go.Ground.phase }, { on := 5, ground := Go.Ground.phase }, { on := 6, ground := Go.Ground.textOnly Go.Departure.lateStores }, { on := 7, ground := Go.Ground.textOnly Go.Departure.lateStores }, { on := 8, ground := Go.Ground.textOnly Go.Departure.lateStores }, { on := 9, ground := Go.Ground.textOnly Go.Departure.lateStores }, { on := 10, ground := Go.Ground.textOnly Go.Departure.lateStores }], guard := none }) (v := .int .i64 (q1 : Int)) rfl (by kernel_rfl) (by kernel_rfl) (by kernel_rfl) (fun _ _ _ h => h) (Or.inl ⟨by kernel_rfl, ?_⟩) hS ?_
  · intro w5 hSw
    clear hSw hS
    go_simp
  simp only [Act.put, List.setIfInBounds_toArray, List.set_cons_zero, List.set_cons_succ]
  refine wpAnyH_take (i := 12) (oi := { dst := some 7, op := Go.Op.assign (Go.Operand.tmp 23), type := 2, pos := "fresh.go:38", after := #[{ on := 10, ground := Go.Ground.data }, { on := 11, ground := Go.Ground.chain }, { on := 0, ground := Go.Ground.phase }, { on := 1, ground := Go.Ground.phase }, { on := 2, ground := Go.Ground.phase }, { on := 3, ground := Go.Ground.phase }, { on := 4, ground := Go.Ground.phase }, { on := 5, ground := Go.Ground.phase }, { on := 6, ground := Go.Ground.phase }, { on := 7, ground := Go.Ground.phase }, { on := 8, ground := Go.Ground.phase }, { on := 9, ground := Go.Ground.phase }, { on := 10, ground := Go.Ground.phase }, { on := 11, ground := Go.Ground.phase }], guard := none }) (v := .int .i64 ((q2 : Int) + 1)) rfl (by kernel_rfl) (by kernel_rfl) (by kernel_rfl) (fun _ _ _ h => h) (Or.inl ⟨by kernel_rfl, ?_⟩) hS ?_
  · intro w5 hSw
    clear hSw hS
    go_simp
  simp only [Act.put, List.setIfInBounds_toArray, List.set_cons_zero, List.set_cons_succ]
  have HU2 := Hid.of (HU1.out.trans hS)
  clear hS
  refine wpAnyH_done (by kernel_rfl) ?_ _
  go_wp2
  go_ret2
  exact ⟨rfl, HU2.out⟩
end Go.Proofs.Ytngoedhddjakhaa
