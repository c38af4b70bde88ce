import Derived.Test.YtaibjeehjhlicaaDoorYaz
namespace Go.Proofs.YtaibjeehjhlicaaDoor
open Go.RowKit Go.Shelf TextNum ModNum
abbrev Som2 (R : Value → Value → Nat → World → Prop) (A : Value → Value → Nat → World → Act) (W : Value → Value → Nat → World → World) : Exit → Act → World → Prop
  | .normal, a, w => ∃ x y n u, R x y n u ∧ a = A x y n u ∧ w = W x y n u
  | _, _, _ => False
theorem wp_som2 {P : Program} {c : Code} {Q : Exit → Act → World → Prop} {a : Act} {w : World} (R : Value → Value → Nat → World → Prop) (A : Value → Value → Nat → World → Act) (W : Value → Value → Nat → World → World) (h : c.wp P (Som2 R A W) a w) (k : ∀ x y n u, R x y n u → Q Exit.normal (A x y n u) (W x y n u)) : c.wp P Q a w :=
  Code.wp_mono (fun e a' w' h => by
    cases e with
    | normal => obtain ⟨x, y, n, u, hR, rfl, rfl⟩ := h; exact k x y n u hR
    | _ => exact h.elim) h
set_option maxRecDepth 100000 in
theorem infoFile : (Tryd.prog.info? 29).map (·.size) = some 2 := by kernel_rfl
theorem exec_idxFile {o : Oper} {ρ : Operand → Value} {x y : Operand} {w : World} {b off n c : Nat} (i : Nat) (hi : i < n) (ho : o.op = .indexAddr 30 x y) (hx : ρ x = .slice (some ⟨b, off, none⟩) n c) (hy : ρ y = .int .i64 (i : Int)) : (execOp ρ o).run Tryd.prog w = .ok (.value (.pointer (some ⟨b, off + i * 2, none⟩))) w := by
  have hi' : (i : Int) < (n : Int) := by omega
  unfold execOp
  simp only [ho, hx, hy]
  go_simp
theorem wpList_val7' {ops : Array Oper} {Q : Exit → Act → World → Prop} {rest : List Oper} {o : Oper} {a : Act} {w : World} (v : Value) (hgd : o.guard = none) (hy : (execOp a.eval o).run Tryd.prog w = .ok (.value v) w)
    (h : wpList Tryd.prog ops Q rest (a.put o.dst v) w) : wpList Tryd.prog ops Q (o :: rest) a w :=
  wpList_plain hgd fun K hK => by
    unfold Oper.wp
    rw [hy]
    exact hK _ _ h
theorem all2 {x y : Value} (h1 : x.oneCell' = true) (h2 : y.oneCell' = true) : ([x, y].toArray.all (·.oneCell')) = true := by simp [h1, h2]
theorem range2 {w : World} {b off : Nat} {x y : Value} (h1 : w.cell? ⟨b, off, none⟩ = some x) (h2 : w.cell? ⟨b, off + 1, none⟩ = some y) : w.rangeAt b off [x, y] := fun j v hj => by
  match j, hj with
  | 0, hj => simp at hj; subst hj; exact h1
  | 1, hj => simp at hj; subst hj; exact h2
  | j + 2, hj => simp at hj
/-- what laid has made of the first files -/
def LD (fs : List GF) (nf : List (List UInt8 × FL)) : Prop := nf.map (fun p => (p.1, p.2.nb)) = fs.map fun g => (g.nm.data.toList, g.ds)
theorem LD.keys {fs : List GF} {nf : List (List UInt8 × FL)} (h : LD fs nf) : nf.map (·.1) = fs.map fun g => g.nm.data.toList := by
  have := congrArg (List.map Prod.fst) h
  simp only [List.map_map] at this
  exact this
theorem LD.len {fs : List GF} {nf : List (List UInt8 × FL)} (h : LD fs nf) : nf.length = fs.length := by
  have := congrArg List.length h
  simpa using this
theorem LD.usd {fs : List GF} {nf : List (List UInt8 × FL)} (h : LD fs nf) : usd nf = (fs.map fun g => g.ds.length).sum := by
  unfold Go.Proofs.YtaibjeehjhlicaaDoor.usd
  have := congrArg (List.map fun q : List UInt8 × List UInt8 => q.2.length) h
  simp only [List.map_map] at this
  have e : (nf.map fun p => p.2.nb.length) = fs.map fun g => g.ds.length := this
  rw [e]
theorem LD.snoc {fs : List GF} {nf : List (List UInt8 × FL)} {j : Nat} (hj : j < fs.length) (h : LD (fs.take j) nf) {F : Nat} {v1 v2 : Value} : LD (fs.take (j + 1)) (nf ++ [(fs[j].nm.data.toList, ftd F v1 v2 fs[j].ds)]) := by
  unfold LD at h ⊢
  rw [List.take_succ_eq_append_getElem hj, List.map_append, List.map_append, h]
  rfl
theorem sum_take_le (l : List Nat) (j : Nat) : (l.take j).sum ≤ l.sum := by
  have h := congrArg List.sum (List.take_append_drop j l)
  rw [List.sum_append] at h
  omega
set_option maxRecDepth 100000 in
set_option maxHeartbeats 4000000 in
theorem laid_raw (room : Nat) (a : Option Addr) (fs : List GF) (c : Nat) (w : World) (hF : FsL w a fs c) (hnm : ∀ g ∈ fs, isNm g.nm.data.toList = true) (hnd : (fs.map fun g => g.nm.data.toList).Nodup) (hsz : (fs.map fun g => g.ds.length).sum ≤ 1099511627776) (hlen : fs.length ≤ 1000000) :
    Calls Tryd.prog 15 #[.int .i64 (room : Int), .slice a fs.length c] w fun e w' => ∃ D M L dm nf, e = .returned (pv D) ∧ ∃ w1, LJ w w1 D M room dm nf ∧ LD fs nf ∧ OM w1 L nf.length dm ∧ w.heap.size ≤ L ∧ M ≠ L ∧ w' = w1.setCell ⟨D, 4, none⟩ (.map (some L)) := by
  have hmk := fun w' => run_mkMap (P := Tryd.prog) 54 9 52 Tryd.underlying54 fs.length w'
  have hM := World.ownsMap_made w Tryd.prog 9 rp
  have hU1 := (Up.refl w).alloc (.map #[] 0)
  have hs := alloc_size w (.map #[] 0)
  have hA := at_new (w.alloc (.map #[] 0)) 58 (d0c room w.heap.size (.map none) (.slice none 0 0) 0)
  have hU2 := hU1.alloc (.cells (d0c room w.heap.size (.map none) (.slice none 0 0) 0).toArray 58)
  have hM2 : OM _ w.heap.size 0 (.map []) := World.ownsMap.alloc hM (.cells (d0c room w.heap.size (.map none) (.slice none 0 0) 0).toArray 58)
  rw [hs] at hA
  have HJ0 := Hid.of (show LJ w ((w.alloc (.map #[] 0)).alloc (.cells (d0c room w.heap.size (.map none) (.slice none 0 0) 0).toArray 58)) (w.heap.size + 1) w.heap.size room (.map []) [] from
    ⟨hA, ⟨by omega, Nat.le_refl _⟩, hM2, ⟨fun x => by simp [Maps.has_eq], fun p hp => by cases hp⟩, List.nodup_nil, (fun p hp => by cases hp), (fun p hp => by cases hp), List.nodup_nil, (fun p hp => by cases hp), (fun p hp => by cases hp), (fun p hp => by cases hp), hU2⟩)
  have HF := Hid.of hF
  have HNm := Hid.of hnm
  have HNd := Hid.of hnd
  have HSz := Hid.of hsz
  have hcap := hF.cap
  clear hA hU2 hM2 hM hU1 hs hF hnm hnd hsz
  go_enter Tryd.func15, Tryd.ntmps15
  go_wp2
  have hW : (w.alloc (.map #[] 0)).alloc (.cells (d0c room w.heap.size (.map none) (.slice none 0 0) 0).toArray 58) = (w.alloc (.map #[] 0)).alloc (.cells #[.int .i64 (room : Int), .int .i64 0, .bool false, .map (some w.heap.size), .map none, .slice none 0 0, .slice none 0 0, .int .i64 0, .int .i64 0, .int .i64 0, .int .i64 0, .int .i64 0] 58) := rfl
  rw [hW] at HJ0
  clear hW hmk
  generalize (w.alloc (.map #[] 0)).alloc (.cells #[.int .i64 (room : Int), .int .i64 0, .bool false, .map (some w.heap.size), .map none, .slice none 0 0, .slice none 0 0, .int .i64 0, .int .i64 0, .int .i64 0, .int .i64 0, .int .i64 0] 58) = W2 at *
  obtain ⟨D, hDe⟩ : ∃ D, D = w.heap.size + 1 := ⟨_, rfl⟩
  obtain ⟨M, hMe⟩ : ∃ M, M = w.heap.size := ⟨_, rfl⟩
  rw [← hDe]
  rw [← hDe, ← hMe] at HJ0
  clear hDe hMe
  go_loopw [7, 16] (fun _ v16 wr => ∃ j : Nat, v16 = .int .i64 (j : Int) ∧ j ≤ fs.length ∧ Hid (∃ dm nf, LJ w wr D M room dm nf ∧ LD (fs.take j) nf)) (fun _ v16 _ => fs.length - (intOf v16).toNat)
  case atStart => exact ⟨0, rfl, by omega, Hid.of ⟨_, _, HJ0.out, rfl⟩⟩
  case round =>
    obtain ⟨j, rfl, hj, hQ⟩ := hrel
    obtain ⟨dm, nf, hJ, hLD⟩ := hQ.out
    have HJ := Hid.of hJ
    have HLD := Hid.of hLD
    clear hQ hJ hLD HJ0
    by_cases hjl : j < fs.length
    · have hjz : (j : Int) < (fs.length : Int) := by omega
      obtain ⟨b, off, rfl, k1, k2⟩ := (HF.out.up HJ.out.up).cells j hjl
      have HSb := Hid.of ((HF.out.up HJ.out.up).sb fs[j] (List.getElem_mem hjl))
      have HR := Hid.of (range2 k1 k2)
      have HNj := Hid.of (HNm.out fs[j] (List.getElem_mem hjl))
      have HNew := Hid.of (show fs[j].nm.data.toList ∉ nf.map (·.1) from fun hm => by
        rw [HLD.out.keys] at hm
        obtain ⟨g, hg, e⟩ := List.mem_map.1 hm
        obtain ⟨i, hi, rfl⟩ := List.getElem_of_mem hg
        rw [List.length_take] at hi
        rw [List.getElem_take] at e
        have h3 := List.pairwise_iff_getElem.1 HNd.out i j (by simp; omega) (by simp; omega) (by omega)
        simp only [List.getElem_map] at h3
        exact h3 e)
      have HLs := Hid.of (fun (F : Nat) (v1 v2 : Value) => HLD.out.snoc hjl (F := F) (v1 := v1) (v2 := v2))
      have HBd := Hid.of (show usd nf + fs[j].ds.length ≤ 1099511627776 by
        have h1 := (HLD.out.snoc hjl (F := 0) (v1 := .bool false) (v2 := .bool false)).usd
        rw [usd_append, usd_cons] at h1
        have h2 := sum_take_le (fs.map fun g => g.ds.length) (j + 1)
        rw [← List.map_take] at h2
        have h3 := HSz.out
        have h4 : usd [] = 0 := rfl
        simp only [h4] at h1
        omega)
      obtain ⟨g, hg⟩ : ∃ g, fs[j] = g := ⟨_, rfl⟩
      rw [hg] at HSb HR HNj HNew HLs HBd
      clear k1 k2 hg
      obtain ⟨ag, cg, hvg, _⟩ := id HSb.out
      have HVG := Hid.of hvg
      clear hvg
      go_wp2_with (with_reducible show wpList _ _ _ ({ dst := _, op := Op.indexAddr 30 _ _, type := _, pos := _, after := _, guard := _ } :: _) _ _; refine Shut.out ?_)
      show wpList _ _ _ _ _ _
      refine wpList_val7' (.pointer (some ⟨b, off + j * 2, none⟩)) rfl (exec_idxFile j hjl rfl rfl rfl) ?_
      simp only [Act.put, List.setIfInBounds_toArray, List.set_cons_zero, List.set_cons_succ]
      refine wpList_load_mid rfl _ _ rfl b (off + j * 2) rfl [.string g.nm, g.v] _ HR.out Tryd.underlying29 rfl infoFile ?_
      simp only [Act.put, List.setIfInBounds_toArray, List.set_cons_zero, List.set_cons_succ]
      go_wp2_with (with_reducible show wpList _ _ _ ({ dst := _, op := Op.store 29 _ _, type := _, pos := _, after := _, guard := _ } :: _) _ _; refine Shut.out ?_)
      show wpList _ _ _ _ _ _
      refine wpList_store_at rfl 29 _ _ rfl wr.heap.size (at_new wr 29 [.string ⟨#[]⟩, .slice none 0 0]) [.string g.nm, g.v] rfl rfl rfl infoFile (all2 rfl (by rw [HVG.out]; rfl)) ?_
      intro w4 hA4 hg4
      have HA4 := Hid.of hA4
      have HU4 := Hid.of (((Up.refl wr).alloc (.cells [.string ⟨#[]⟩, .slice none 0 0].toArray 29)).by hg4 (fun g hg => by have := Option.some.inj hg; omega))
      have HN4 := Hid.of (show (∀ p ∈ nf, ∀ k ∈ fbs p.2, k < wr.heap.size) ∧ (D < wr.heap.size ∧ M < wr.heap.size) ∧ w.heap.size ≤ wr.heap.size from ⟨fun p hp k hk => (HJ.out.fok p hp).lt k hk, ⟨lt_of_at HJ.out.disk, World.ownsMap.lt HJ.out.map⟩, HJ.out.up.size⟩)
      generalize wr.heap.size = bo at *
      clear hA4 hg4 HR
      simp only [Act.put]
      have HJ4 := Hid.of (HJ.out.upTo HU4.out)
      have HCl := Hid.of (fun w' (u' : Up w4 w') => Clone_walk g.v g.ds w' ((HSb.out.up HU4.out).up u') (by have := HBd.out; omega))
      have c0 := HA4.out.cell (i := 0) rfl
      have c1 := HA4.out.cell (i := 1) rfl
      have c3 := HJ4.out.disk.cell (i := 3) rfl
      go_wp2
      have hDM : ¬ D = M := fun e => by
        have h1 := HJ4.out.disk.tg
        rw [e, map_tg HJ4.out.map] at h1
        cases h1
      have hbM : ¬ bo = M := fun e => by
        have h1 := HA4.out.tg
        rw [e, map_tg HJ4.out.map] at h1
        cases h1
      clear c0 c1 c3
      refine wp_region_held_drew (S := fun w2 => Fr (fun k => k = M) w4 w2) (by kernel_rfl) ((Fr.refl _ _).up (Up.refl _).drew) (fun hS => ?_)
      refine wpAnyH_take (i := 0) (oi := { dst := some 20, op := Go.Op.move (Go.Operand.tmp 5), type := 23, pos := "disk.go:87", after := #[], guard := none }) (v := pv D) rfl (by kernel_rfl) (by kernel_rfl) (by kernel_rfl) (fun _ _ _ h => h) (Or.inl ⟨by kernel_rfl, ?_⟩) hS ?_
      · intro w5 hSw
        clear hSw hS
        go_simp
      simp only [Act.put, List.setIfInBounds_toArray, List.set_cons_zero, List.set_cons_succ]
      refine wpAnyH_take (i := 1) (oi := { dst := some 21, op := Go.Op.nilCheck (Go.Operand.tmp 20), type := 0, pos := "disk.go:87", after := #[{ on := 0, ground := Go.Ground.data }], guard := none }) (v := pv D) rfl (by kernel_rfl) (by kernel_rfl) (by kernel_rfl) (fun _ _ _ h => h) (Or.inl ⟨by kernel_rfl, ?_⟩) hS ?_
      · intro w5 hSw
        clear hSw hS
        go_simp
      simp only [Act.put, List.setIfInBounds_toArray, List.set_cons_zero, List.set_cons_succ]
      refine wpAnyH_take (i := 2) (oi := { dst := some 22, op := Go.Op.fieldAddr 58 (Go.Operand.tmp 21) 3, type := 0, pos := "disk.go:87", after := #[{ on := 1, ground := Go.Ground.data }], guard := none }) (v := .pointer (some ⟨D, 3, none⟩)) rfl (by kernel_rfl) (by kernel_rfl) (by kernel_rfl) (fun _ _ _ h => h) (Or.inl ⟨by kernel_rfl, ?_⟩) hS ?_
      · intro w5 hSw
        clear hSw hS
        go_simp
      simp only [Act.put, List.setIfInBounds_toArray, List.set_cons_zero, List.set_cons_succ]
      refine wpAnyH_take (i := 3) (oi := { dst := some 23, op := Go.Op.load 54 (Go.Operand.tmp 22), type := 54, pos := "disk.go:87", after := #[{ on := 2, ground := Go.Ground.data }], guard := none }) (v := .map (some M)) rfl (by kernel_rfl) (by kernel_rfl) (by kernel_rfl) (fun _ _ _ h => h) (Or.inl ⟨by kernel_rfl, ?_⟩) hS ?_
      · intro w5 hSw
        have h0 := (hSw.at HJ4.out.disk hDM).cell (i := 3) rfl
        clear hSw hS
        go_simp
      simp only [Act.put, List.setIfInBounds_toArray, List.set_cons_zero, List.set_cons_succ]
      refine wpAnyH_take (i := 4) (oi := { dst := some 24, op := Go.Op.fieldAddr 29 (Go.Operand.tmp 7) 0, type := 0, pos := "disk.go:87", after := #[], guard := none }) (v := .pointer (some ⟨bo, 0, none⟩)) rfl (by kernel_rfl) (by kernel_rfl) (by kernel_rfl) (fun _ _ _ h => h) (Or.inl ⟨by kernel_rfl, ?_⟩) hS ?_
      · intro w5 hSw
        clear hSw hS
        go_simp
      simp only [Act.put, List.setIfInBounds_toArray, List.set_cons_zero, List.set_cons_succ]
      refine wpAnyH_take (i := 5) (oi := { dst := some 25, op := Go.Op.load 9 (Go.Operand.tmp 24), type := 9, pos := "disk.go:87", after := #[{ on := 4, ground := Go.Ground.data }], guard := none }) (v := .string g.nm) rfl (by kernel_rfl) (by kernel_rfl) (by kernel_rfl) (fun _ _ _ h => h) (Or.inl ⟨by kernel_rfl, ?_⟩) hS ?_
      · intro w5 hSw
        have h0 := (hSw.at HA4.out hbM).cell (i := 0) rfl
        clear hSw hS
        go_simp
      simp only [Act.put, List.setIfInBounds_toArray, List.set_cons_zero, List.set_cons_succ]
      refine wpAnyH_take (i := 6) (oi := { dst := some 26, op := Go.Op.fieldAddr 29 (Go.Operand.tmp 7) 1, type := 0, pos := "disk.go:87", after := #[], guard := none }) (v := .pointer (some ⟨bo, 1, none⟩)) rfl (by kernel_rfl) (by kernel_rfl) (by kernel_rfl) (fun _ _ _ h => h) (Or.inl ⟨by kernel_rfl, ?_⟩) hS ?_
      · intro w5 hSw
        clear hSw hS
        go_simp
      simp only [Act.put, List.setIfInBounds_toArray, List.set_cons_zero, List.set_cons_succ]
      refine wpAnyH_take (i := 7) (oi := { dst := some 27, op := Go.Op.load 27 (Go.Operand.tmp 26), type := 27, pos := "disk.go:87", after := #[{ on := 6, ground := Go.Ground.data }], guard := none }) (v := g.v) rfl (by kernel_rfl) (by kernel_rfl) (by kernel_rfl) (fun _ _ _ h => h) (Or.inl ⟨by kernel_rfl, ?_⟩) hS ?_
      · intro w5 hSw
        have h0 := (hSw.at HA4.out hbM).cell (i := 1) rfl
        clear hSw hS
        go_simp
      simp only [Act.put, List.setIfInBounds_toArray, List.set_cons_zero, List.set_cons_succ]
      refine wpAnyH_take (i := 9) (oi := { dst := some 29, op := Go.Op.fieldAddr 29 (Go.Operand.tmp 7) 1, type := 0, pos := "disk.go:87", after := #[], guard := none }) (v := .pointer (some ⟨bo, 1, none⟩)) rfl (by kernel_rfl) (by kernel_rfl) (by kernel_rfl) (fun _ _ _ h => h) (Or.inl ⟨by kernel_rfl, ?_⟩) hS ?_
      · intro w5 hSw
        clear hSw hS
        go_simp
      simp only [Act.put, List.setIfInBounds_toArray, List.set_cons_zero, List.set_cons_succ]
      refine wpAnyH_take (i := 10) (oi := { dst := some 30, op := Go.Op.load 27 (Go.Operand.tmp 29), type := 27, pos := "disk.go:87", after := #[{ on := 9, ground := Go.Ground.data }], guard := none }) (v := g.v) rfl (by kernel_rfl) (by kernel_rfl) (by kernel_rfl) (fun _ _ _ h => h) (Or.inl ⟨by kernel_rfl, ?_⟩) hS ?_
      · intro w5 hSw
        have h0 := (hSw.at HA4.out hbM).cell (i := 1) rfl
        clear hSw hS
        go_simp
      simp only [Act.put, List.setIfInBounds_toArray, List.set_cons_zero, List.set_cons_succ]
      refine wpAnyH_ready (rs := [8]) (by kernel_rfl) (by simp) ?_
      refine AllReadyH.cons (o := { dst := some 28, op := Go.Op.call { callee := Go.Callee.value (Go.Operand.func 17), args := #[Go.Operand.tmp 27], argTypes := #[27] }, type := 27, pos := "disk.go:87", after := #[{ on := 7, ground := Go.Ground.data }], guard := none }) rfl (fun K hK => ?_) AllReadyH.nil
      rw [if_pos (by kernel_rfl)]
      go_simp
      refine (HCl.out _ (Up.refl _).drew).mono ?_
      rintro e w5 ⟨v1, rfl, o5, u5⟩
      obtain ⟨a1, k1, rfl, _⟩ := id (Ow.sb o5)
      dsimp only
      have HU5 := Hid.of ((Up.refl w4).drew.trans u5)
      have HO5 := Hid.of (show Ow w5 bo (.slice a1 g.ds.length k1) g.ds from ow_base o5 (by have := lt_of_at HA4.out; show bo ≤ w4.heap.size; omega))
      have HZ5 := Hid.of (fun g0 (hg0 : (Value.slice a1 g.ds.length k1).ownBlock = some g0) => (World.ownsRow.lt o5 g0 hg0))
      clear o5 u5 hS
      refine hK.out _ _ ((Fr.refl _ _).up HU5.out) (fun hS => ?_)
      clear hK K
      refine wpAnyH_ready (rs := [11]) (by kernel_rfl) (by simp) ?_
      refine AllReadyH.cons (o := { dst := some 31, op := Go.Op.call { callee := Go.Callee.value (Go.Operand.func 17), args := #[Go.Operand.tmp 30], argTypes := #[27] }, type := 27, pos := "disk.go:87", after := #[{ on := 10, ground := Go.Ground.data }, { on := 8, ground := Go.Ground.chain }], guard := none }) rfl (fun K hK => ?_) AllReadyH.nil
      rw [if_pos (by kernel_rfl)]
      go_simp
      refine (HCl.out _ HU5.out).mono ?_
      rintro e w6 ⟨v2, rfl, o6, u6⟩
      obtain ⟨a2, k2, rfl, _⟩ := id (Ow.sb o6)
      dsimp only
      have HU6 := Hid.of (HU5.out.trans u6)
      have HO6 := Hid.of (show Ow w6 bo (.slice a2 g.ds.length k2) g.ds from ow_base o6 (by have := lt_of_at HA4.out; have := HU5.out.size; omega))
      have HO5b := Hid.of (ow_up HO5.out u6)
      have HAp := Hid.of (show ∀ g0, (Value.slice a1 g.ds.length k1).ownBlock = some g0 → (Value.slice a2 g.ds.length k2).ownBlock ≠ some g0 from fun g0 h1 h2 => by
        have := (HZ5.out g0 h1).2
        have := (World.ownsRow.lt o6 g0 h2).1
        omega)
      clear o6 u6 hS
      refine hK.out _ _ ((Fr.refl _ _).up HU6.out) (fun hS => ?_)
      clear hK K
      refine wpAnyH_take (i := 12) (oi := { dst := some 32, op := Go.Op.build 51 #[(0, Go.Operand.tmp 28), (1, Go.Operand.tmp 31)], type := 51, pos := "disk.go:87", after := #[{ on := 8, ground := Go.Ground.data }, { on := 11, ground := Go.Ground.data }], guard := none }) (v := .agg #[(.slice a1 g.ds.length k1), (.slice a2 g.ds.length k2), .slice none 0 0]) rfl (by kernel_rfl) (by kernel_rfl) (by kernel_rfl) (fun _ _ _ h => h) (Or.inl ⟨by kernel_rfl, ?_⟩) hS ?_
      · intro w5 hSw
        clear hSw hS
        go_simp
      simp only [Act.put, List.setIfInBounds_toArray, List.set_cons_zero, List.set_cons_succ]
      refine wpAnyH_ready (rs := [13]) (by kernel_rfl) (by simp) ?_
      refine AllReadyH.cons (o := { dst := some 33, op := Go.Op.box 51 (Go.Operand.tmp 32), type := 52, pos := "disk.go:87", after := #[{ on := 12, ground := Go.Ground.data }], guard := none }) rfl (fun K hK => ?_) AllReadyH.nil
      rw [if_pos (by kernel_rfl)]
      go_simp
      have HU7 := Hid.of (HU6.out.alloc (.cells #[(.slice a1 g.ds.length k1), (.slice a2 g.ds.length k2), .slice none 0 0] 51))
      have HF7 := Hid.of (show At (w6.alloc (.cells #[(.slice a1 g.ds.length k1), (.slice a2 g.ds.length k2), .slice none 0 0] 51)) w6.heap.size 51 [(.slice a1 g.ds.length k1), (.slice a2 g.ds.length k2), .slice none 0 0] from at_new w6 51 [(.slice a1 g.ds.length k1), (.slice a2 g.ds.length k2), .slice none 0 0])
      have HU67 := Hid.of ((Up.refl w6).alloc (.cells #[(.slice a1 g.ds.length k1), (.slice a2 g.ds.length k2), .slice none 0 0] 51))
      have HF6 := Hid.of (show bo ≤ w6.heap.size by have := lt_of_at HA4.out; have := HU6.out.size; omega)
      generalize w6.heap.size = F at *
      generalize hw7 : w6.alloc (.cells #[(.slice a1 g.ds.length k1), (.slice a2 g.ds.length k2), .slice none 0 0] 51) = w7 at *
      clear hw7 hS
      refine hK.out _ _ ((Fr.refl _ _).up HU7.out) (fun hS => ?_)
      clear hK K
      refine wpAnyH_ready (rs := [14]) (by kernel_rfl) (by simp) ?_
      refine AllReadyH.cons (o := { dst := none, op := Go.Op.mapUpdate 54 (Go.Operand.tmp 23) (Go.Operand.tmp 25) (Go.Operand.tmp 33), type := 0, pos := "disk.go:87", after := #[{ on := 3, ground := Go.Ground.data }, { on := 5, ground := Go.Ground.data }, { on := 13, ground := Go.Ground.data }, { on := 11, ground := Go.Ground.chain }, { on := 0, ground := Go.Ground.phase }, { on := 1, ground := Go.Ground.phase }, { on := 2, ground := Go.Ground.phase }, { on := 3, ground := Go.Ground.phase }, { on := 4, ground := Go.Ground.phase }, { on := 5, ground := Go.Ground.phase }, { on := 6, ground := Go.Ground.phase }, { on := 7, ground := Go.Ground.phase }, { on := 8, ground := Go.Ground.phase }, { on := 9, ground := Go.Ground.phase }, { on := 10, ground := Go.Ground.phase }, { on := 11, ground := Go.Ground.phase }, { on := 12, ground := Go.Ground.phase }, { on := 13, ground := Go.Ground.phase }], guard := none }) rfl (fun K hK => ?_) AllReadyH.nil
      rw [if_pos (by kernel_rfl)]
      obtain ⟨w8, hrun, o8, g8⟩ := World.ownsMap.update (HJ4.out.upTo HU7.out).map (Maps.string_keyed Tryd.underlying9) Tryd.underlying54 (show nf.length < maxLen by simp only [maxLen]; have := HLD.out.len; rw [List.length_take] at this; omega) (keyS g.nm (by rw [Go.Lib.size_eq]; exact nm_len HNj.out)) (show rp (pv F) = some (fd F, []) from rfl)
      go_simp
      have HO8 := Hid.of o8
      have HG8 := Hid.of g8
      clear o8 g8 hrun
      refine hK.out _ _ (((Fr.refl _ _).up HU7.out).by HG8.out (fun k hk => .inl (Option.some.inj hk).symm)) (fun hS => ?_)
      clear hK K
      clear hS
      refine wpAnyH_done (by kernel_rfl) ?_ _
      have HJ7 := Hid.of (HJ4.out.upTo HU7.out)
      have HStep := Hid.of (LJ.step (N := bo) HJ7.out HNj.out HNew.out (by have := HBd.out; omega) HN4.out.1 HN4.out.2.1 HN4.out.2.2 HF7.out HF6.out (ow_up HO5b.out HU67.out) (ow_up HO6.out HU67.out) HAp.out HO8.out HG8.out)
      have f8 := (Fr.refl (fun k => k = M) w4).up HU7.out |>.by HG8.out (fun k hk => .inl (Option.some.inj hk).symm)
      have c1 := (f8.at HA4.out hbM).cell (i := 1) rfl
      have d1 := (f8.at HJ4.out.disk hDM).cell (i := 1) rfl
      have t1 := (f8.at HJ4.out.disk hDM).thaw 1
      have hub := HBd.out
      have HLs2 := Hid.of (HLs.out F (.slice a1 g.ds.length k1) (.slice a2 g.ds.length k2))
      rw [HVG.out] at c1
      clear f8 HO8 HG8 HJ7 HO5b HO6 HAp HF7 HU67 HCl HZ5 HO5 HU5 HU6
      go_wp2
      apply wp_once
      case h =>
        go_region
        all_goals exact ⟨rfl, rfl⟩
      go_wp2
      go_roundw
      all_goals first
        | exact ⟨j + 1, by go_num, by omega, Hid.of ⟨_, _, HStep.out.upTo (Up.refl _).drew, HLs2.out⟩⟩
        | (simp [intOf]; omega)
    · have hjz : ¬ (j : Int) < (fs.length : Int) := by omega
      have c3 := HJ.out.disk.cell (i := 3) rfl
      rw [show fs.take j = fs from List.take_of_length_le (by omega)] at HLD
      have HC := Hid.of (mapsClone_walk M nf.length dm wr HJ.out.map)
      go_wp2_with fail
      refine HC.out.mono ?_
      rintro e w3 ⟨L, rfl, l3, ml3, u3⟩
      have HJ3 := Hid.of (HJ.out.upTo u3)
      have HML := Hid.of ml3
      have HL3 := Hid.of (show w.heap.size ≤ L ∧ M ≠ L from ⟨Nat.le_trans HJ.out.up.size l3, fun e => by have := World.ownsMap.lt HJ.out.map; omega⟩)
      have t4 := HJ3.out.disk.thaw 4
      have c4 := HJ3.out.disk.cell (i := 4) rfl
      clear u3 c3 HC ml3 l3
      dsimp only
      go_wp2
      go_ret
      exact ⟨D, M, L, dm, nf, rfl, w3, HJ3.out, HLD.out, HML.out, HL3.out.1, HL3.out.2, rfl⟩
end Go.Proofs.YtaibjeehjhlicaaDoor
