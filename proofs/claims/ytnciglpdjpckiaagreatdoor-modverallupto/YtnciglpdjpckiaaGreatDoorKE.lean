import Derived.Test.YtnciglpdjpckiaaGreatDoorKD
import Derived.Laws.StructEq
import Derived.Stop.BytesEq
import Derived.Test.YtnciglpdjpckiaaGreatDoorKY
namespace Go.Proofs.YtnciglpdjpckiaaGreatDoor
open Go.RowKit Go.Shelf TextNum ModNum
/-- three rows of zeros -/
structure Z3 (w W : World) (zz : List Value) : Prop where
  a : At W w.heap.size 32 zz
  b : At W (w.heap.size + 1) 32 zz
  c : At W (w.heap.size + 1 + 1) 32 zz
  u : Up w W
theorem Z3.up {w W W' : World} {zz : List Value} (h : Z3 w W zz) (k : Up W W') : Z3 w W' zz := ⟨h.a.up k, h.b.up k, h.c.up k, h.u.trans k⟩
theorem Z3.s0 {w W : World} {zz : List Value} (h : Z3 w W zz) : Z3 w (W.setCells w.heap.size 0 zz) zz :=
  ⟨h.a.sets rfl, h.b.by (grown_sets _ _ _ _) (fun e => by injection e with e; omega), h.c.by (grown_sets _ _ _ _) (fun e => by injection e with e; omega), h.u.by (grown_sets _ _ _ _) (fun g e => by injection e with e; omega)⟩
theorem Z3.s1 {w W : World} {zz : List Value} (h : Z3 w W zz) : Z3 w (W.setCells (w.heap.size + 1) 0 zz) zz :=
  ⟨h.a.by (grown_sets _ _ _ _) (fun e => by injection e with e; omega), h.b.sets rfl, h.c.by (grown_sets _ _ _ _) (fun e => by injection e with e; omega), h.u.by (grown_sets _ _ _ _) (fun g e => by injection e with e; omega)⟩
theorem z3_new (w : World) : Z3 w (((w.alloc (.cells (cb Z32).toArray 32)).alloc (.cells (cb Z32).toArray 32)).alloc (.cells (cb Z32).toArray 32)) (cb Z32) := by
  have h := twoZ_new w
  have h2 := at_new ((w.alloc (.cells (cb Z32).toArray 32)).alloc (.cells (cb Z32).toArray 32)) 32 (cb Z32)
  rw [alloc_size, alloc_size] at h2
  exact ⟨h.a.up ((Up.refl _).alloc _), h.b.up ((Up.refl _).alloc _), h2, h.u.alloc _⟩
/-- what the last return reads -/
structure F4 (w w2 : World) (g off : Nat) (xa xb : ByteArray) (bt bm : Nat) (t1 t2 : List Value) : Prop where
  u : Up w w2
  c0 : w2.cell? ⟨g, off, none⟩ = some (.string xa)
  c1 : w2.cell? ⟨g, off + 1, none⟩ = some (.string xb)
  r1 : w2.rangeAt bt 0 t1
  r2 : w2.rangeAt bm 0 t2
  th0 : w2.there w.heap.size 0 32
  th1 : w2.there (w.heap.size + 1) 0 32
theorem F4.drew {w w2 : World} {g off : Nat} {xa xb : ByteArray} {bt bm : Nat} {t1 t2 : List Value} (h : F4 w w2 g off xa xb bt bm t1 t2) : F4 w w2.drew g off xa xb bt bm t1 t2 :=
  ⟨h.u.drew, (World.cell?_drew _ _).trans h.c0, (World.cell?_drew _ _).trans h.c1, fun j v hv => (World.cell?_drew _ _).trans (h.r1 j v hv), fun j v hv => (World.cell?_drew _ _).trans (h.r2 j v hv), h.th0, h.th1⟩
theorem F4.st {w w2 : World} {g off : Nat} {xa xb : ByteArray} {bt bm : Nat} {t1 t2 : List Value} (h : F4 w w2 g off xa xb bt bm t1 t2) {b : Nat} (hb : w.heap.size ≤ b) (h1 : b ≠ g) (h2 : b ≠ bt) (h3 : b ≠ bm) (vs : List Value) : F4 w (w2.setCells b 0 vs) g off xa xb bt bm t1 t2 :=
  ⟨h.u.by (grown_sets _ _ _ _) (fun k e => by injection e with e; omega), (grown_sets _ _ _ _).cell h.c0 (fun e => by injection e with e; exact h1 e.symm), (grown_sets _ _ _ _).cell h.c1 (fun e => by injection e with e; exact h1 e.symm), World.rangeAt_setCells_apart h.r1 _ _ _ (.inl (fun e => h2 e.symm)), World.rangeAt_setCells_apart h.r2 _ _ _ (.inl (fun e => h3 e.symm)), World.there_setCells h.th0 _ _ _, World.there_setCells h.th1 _ _ _⟩
theorem str_row {W : World} {b off : Nat} {t : TypeId} {l : List UInt8} {x : ByteArray} (h : At W b t (cb l)) (hc : W.cell? ⟨b, off, none⟩ = some (.string x)) : False := by
  have h2 := cell_of_row W b off (cb l).toArray t (0, 0) h
  rw [h2] at hc
  have h3 : (cb l)[off]? = some (.string x) := by simpa using hc
  obtain ⟨hlt, e⟩ := List.getElem?_eq_some_iff.1 h3
  simp [cb] at e
theorem psm_err (l : List UInt8) : (psm l).2 = 0 ∨ (psm l).2 = 114 := by
  unfold psm
  split
  · exact .inl rfl
  · exact .inr rfl
theorem SlS.sixth {w : World} {v : Value} {a b c d e f : List UInt8} (h : SlS w v [a, b, c, d, e, f]) : ∃ g off cc, ∃ xa xb xc xd xe xf : ByteArray, v = .slice (some ⟨g, off, none⟩) 6 cc ∧ 6 ≤ cc ∧ (w.cell? ⟨g, off, none⟩ = some (.string xa) ∧ w.cell? ⟨g, off + 1, none⟩ = some (.string xb) ∧ w.cell? ⟨g, off + 2, none⟩ = some (.string xc) ∧ w.cell? ⟨g, off + 3, none⟩ = some (.string xd) ∧ w.cell? ⟨g, off + 4, none⟩ = some (.string xe) ∧ w.cell? ⟨g, off + 5, none⟩ = some (.string xf)) ∧ xa.data.toList = a ∧ xb.data.toList = b ∧ xc.data.toList = c ∧ xd.data.toList = d ∧ xe.data.toList = e ∧ xf.data.toList = f := by
  obtain ⟨ad, cc, rfl, hcc, hcl⟩ := h
  rcases hcl with h | ⟨g, off, rfl, _, hc⟩
  · cases h
  · exact ⟨g, off, cc, ⟨a.toArray⟩, ⟨b.toArray⟩, ⟨c.toArray⟩, ⟨d.toArray⟩, ⟨e.toArray⟩, ⟨f.toArray⟩, rfl, hcc, ⟨hc 0 (by simp), hc 1 (by simp), hc 2 (by simp), hc 3 (by simp), hc 4 (by simp), hc 5 (by simp)⟩, rfl, rfl, rfl, rfl, rfl, rfl⟩
set_option maxRecDepth 100000 in
set_option maxHeartbeats 4000000 in
theorem RParseRecord_walk (s : ByteArray) (w : World) (hT : TK w) : Calls Tryz.prog 33 #[.string s] w fun e w' => e = .returned (prcV (prc s.data.toList)) ∧ Up w w' := by
  have HTK := Hid.of hT
  have HZ := Hid.of (z3_new w)
  have hlit := zlit
  obtain ⟨zz, hzz⟩ : ∃ zz, zz = cb Z32 := ⟨_, rfl⟩
  have iz : (Tryz.prog.info? 32).map (·.size) = some zz.length := by rw [hzz]; kernel_rfl
  have oz : zz.toArray.all (·.oneCell') = true := by rw [hzz]; exact cb_all _
  rw [← hzz] at HZ hlit
  have HZZ := Hid.of hzz
  have HLit := Hid.of hlit
  clear hzz hlit
  have mixed : Tryz.prog.follows .mixedOrders = true := by kernel_rfl
  have HP : Hid (prc s.data.toList = match two s.data.toList with
    | none => ⟨[], [], Z32, Z32, 115⟩
    | some (x, y) => if y.1 ≠ x.1 ∨ y.2.1 ≠ x.2.1 ++ GOM then ⟨[], [], Z32, Z32, 115⟩
      else if (rdw x.1 x.2.1 x.2.2 y.2.2).2.2 ≠ 0 then ⟨[], [], Z32, Z32, (rdw x.1 x.2.1 x.2.2 y.2.2).2.2⟩
      else ⟨x.1, x.2.1, (rdw x.1 x.2.1 x.2.2 y.2.2).1, (rdw x.1 x.2.1 x.2.2 y.2.2).2.1, 0⟩) := rfl
  clear hT
  by_cases h1024 : 1024 < s.size
  · have hz : (1024 : Int) < (s.size : Int) := by omega
    have HN := Hid.of (show prc s.data.toList = ⟨[], [], Z32, Z32, 115⟩ by
      rw [HP.out, show two s.data.toList = none from if_pos (.inl (by rw [len_of]; exact h1024))])
    clear h1024 HP
    go_enter Tryz.func33, Tryz.ntmps33
    go_wp2
    rw [HLit.out]
    generalize ((w.alloc (.cells zz.toArray 32)).alloc (.cells zz.toArray 32)).alloc (.cells zz.toArray 32) = W0 at *
    refine wp_region_held_drew (S := fun w2 => Z3 w w2 zz) (by kernel_rfl) (HZ.out.up ((Up.refl W0).drew)) (fun hS => ?_)
    refine wpAnyH_take (i := 0) (oi := { dst := some 18, op := Go.Op.load 32 (Go.Operand.tmp 7), type := 32, pos := "order.go:195", after := #[{ on := 3, ground := Go.Ground.gcOnly Go.Departure.lateStores }], guard := none }) (v := .agg (zz).toArray) rfl (by kernel_rfl) (by kernel_rfl) (by kernel_rfl) (fun _ _ _ h => h) (yieldsIf_load_mid (by kernel_rfl) _ _ rfl (w.heap.size + 1 + 1) 0 rfl (zz) _ (fun w5 hSw => hSw.c.range) Tryz.underlying32 rfl iz) hS ?_
    simp only [Act.put, List.setIfInBounds_toArray, List.set_cons_zero, List.set_cons_succ]
    refine wpAnyH_take (i := 1) (oi := { dst := some 19, op := Go.Op.load 32 (Go.Operand.tmp 7), type := 32, pos := "order.go:195", after := #[{ on := 4, ground := Go.Ground.gcOnly Go.Departure.lateStores }], guard := none }) (v := .agg (zz).toArray) rfl (by kernel_rfl) (by kernel_rfl) (by kernel_rfl) (fun _ _ _ h => h) (yieldsIf_load_mid (by kernel_rfl) _ _ rfl (w.heap.size + 1 + 1) 0 rfl (zz) _ (fun w5 hSw => hSw.c.range) Tryz.underlying32 rfl iz) hS ?_
    simp only [Act.put, List.setIfInBounds_toArray, List.set_cons_zero, List.set_cons_succ]
    refine wpAnyH_ready (rs := [2]) (by kernel_rfl) (by simp) ?_
    refine AllReadyH.cons (o := { dst := some 2, op := Go.Op.assign (Go.Operand.const (Go.Value.string { data := #[] })), type := 9, pos := "order.go:195", after := #[{ on := 0, ground := Go.Ground.textOnly Go.Departure.lateStores }, { on := 1, ground := Go.Ground.textOnly Go.Departure.lateStores }], guard := none }) rfl (fun K hK => ?_) AllReadyH.nil
    rw [if_pos (by kernel_rfl)]
    go_simp
    refine hK.out _ _ hS (fun hS1 => ?_)
    clear hK hS
    refine wpAnyH_ready (rs := [3]) (by kernel_rfl) (by simp) ?_
    refine AllReadyH.cons (o := { dst := some 3, op := Go.Op.assign (Go.Operand.const (Go.Value.string { data := #[] })), type := 9, pos := "order.go:195", after := #[{ on := 2, ground := Go.Ground.chain }, { on := 0, ground := Go.Ground.textOnly Go.Departure.lateStores }, { on := 1, ground := Go.Ground.textOnly Go.Departure.lateStores }, { on := 2, ground := Go.Ground.phase }], guard := none }) rfl (fun K hK => ?_) AllReadyH.nil
    rw [if_pos (by kernel_rfl)]
    go_simp
    refine hK.out _ _ hS1 (fun hS2 => ?_)
    clear hK hS1
    refine wpAnyH_ready (rs := [4]) (by kernel_rfl) (by simp) ?_
    refine AllReadyH.cons (o := { dst := none, op := Go.Op.store 32 (Go.Operand.tmp 4) (Go.Operand.tmp 18), type := 0, pos := "order.go:195", after := #[{ on := 0, ground := Go.Ground.data }, { on := 3, ground := Go.Ground.chain }, { on := 0, ground := Go.Ground.phase }, { on := 1, ground := Go.Ground.textOnly Go.Departure.lateStores }, { on := 2, ground := Go.Ground.phase }, { on := 3, ground := Go.Ground.phase }], guard := none }) rfl (fun K hK => ?_) AllReadyH.nil
    rw [if_pos (by kernel_rfl)]
    refine wp_store_mid _ _ _ rfl (w.heap.size) 0 (zz).toArray rfl rfl (show World.there _ _ _ (List.length zz) from hS2.a.there) iz oz ?_
    simp only [Act.put]
    refine hK.out _ _ (hS2.s0) (fun hS3 => ?_)
    clear hK
    refine wpAnyH_ready (rs := [5]) (by kernel_rfl) (by simp) ?_
    refine AllReadyH.cons (o := { dst := none, op := Go.Op.store 32 (Go.Operand.tmp 5) (Go.Operand.tmp 19), type := 0, pos := "order.go:195", after := #[{ on := 1, ground := Go.Ground.data }, { on := 4, ground := Go.Ground.chain }, { on := 0, ground := Go.Ground.phase }, { on := 1, ground := Go.Ground.phase }, { on := 2, ground := Go.Ground.phase }, { on := 3, ground := Go.Ground.phase }, { on := 4, ground := Go.Ground.phase }], guard := none }) rfl (fun K hK => ?_) AllReadyH.nil
    rw [if_pos (by kernel_rfl)]
    refine wp_store_mid _ _ _ rfl (w.heap.size + 1) 0 (zz).toArray rfl rfl (show World.there _ _ _ (List.length zz) from hS3.b.there) iz oz ?_
    simp only [Act.put]
    refine hK.out _ _ (hS3.s1) (fun hS4 => ?_)
    clear hK
    refine wpAnyH_ready (rs := [6]) (by kernel_rfl) (by simp) ?_
    refine AllReadyH.cons (o := { dst := some 6, op := Go.Op.assign (Go.Operand.const (Go.Value.int Go.IntKind.i64 115)), type := 3, pos := "order.go:195", after := #[{ on := 5, ground := Go.Ground.chain }, { on := 0, ground := Go.Ground.phase }, { on := 1, ground := Go.Ground.phase }, { on := 2, ground := Go.Ground.phase }, { on := 3, ground := Go.Ground.phase }, { on := 4, ground := Go.Ground.phase }, { on := 5, ground := Go.Ground.phase }], guard := none }) rfl (fun K hK => ?_) AllReadyH.nil
    rw [if_pos (by kernel_rfl)]
    go_simp
    refine hK.out _ _ hS4 (fun hS5 => ?_)
    clear hK hS4
    refine wpAnyH_done (by kernel_rfl) ?_ _
    have HY := Hid.of hS5
    clear hS5
    go_wp2
    refine bodyPost_ret (result_t2c2t Tryz.results33 _ _ _ _ zz zz _ _ _ rfl rfl rfl rfl rfl HY.out.a.range Tryz.underlying32 rfl iz HY.out.b.range Tryz.underlying32 rfl iz) rfl ?_
    refine ⟨?_, HY.out.u⟩
    rw [HN.out, HZZ.out]
    rfl
  have hz : ¬ (1024 : Int) < (s.size : Int) := by omega
  have H6 := fun w' => Hid.of (six_walk s (by omega) w')
  clear h1024
  go_enter Tryz.func33, Tryz.ntmps33
  go_wp2_with fail
  rw [HLit.out]
  generalize ((w.alloc (.cells zz.toArray 32)).alloc (.cells zz.toArray 32)).alloc (.cells zz.toArray 32) = W0 at *
  refine (H6 _).out.mono ?_
  clear H6
  rintro e w1 ⟨v, rfl, ⟨a1, n1, c1, rfl⟩, hsl, u1⟩
  have HZ1 := Hid.of (HZ.out.up u1)
  have HSL := Hid.of hsl
  clear u1 hsl HZ
  cases ht : two s.data.toList with
  | none =>
    have HN := Hid.of (show prc s.data.toList = ⟨[], [], Z32, Z32, 115⟩ by rw [HP.out, ht])
    clear ht HSL HP
    dsimp only [Option.isSome]
    go_wp2
    go_quiet (fail)
    go_wp2
    refine wp_region_held_drew (S := fun w2 => Z3 w w2 zz) (by kernel_rfl) (HZ1.out.up (((Up.refl _).drewN _).drew)) (fun hS => ?_)
    refine wpAnyH_take (i := 0) (oi := { dst := some 46, op := Go.Op.load 32 (Go.Operand.tmp 7), type := 32, pos := "order.go:199", after := #[{ on := 3, ground := Go.Ground.gcOnly Go.Departure.lateStores }], guard := none }) (v := .agg (zz).toArray) rfl (by kernel_rfl) (by kernel_rfl) (by kernel_rfl) (fun _ _ _ h => h) (yieldsIf_load_mid (by kernel_rfl) _ _ rfl (w.heap.size + 1 + 1) 0 rfl (zz) _ (fun w5 hSw => hSw.c.range) Tryz.underlying32 rfl iz) hS ?_
    simp only [Act.put, List.setIfInBounds_toArray, List.set_cons_zero, List.set_cons_succ]
    refine wpAnyH_take (i := 1) (oi := { dst := some 47, op := Go.Op.load 32 (Go.Operand.tmp 7), type := 32, pos := "order.go:199", after := #[{ on := 4, ground := Go.Ground.gcOnly Go.Departure.lateStores }], guard := none }) (v := .agg (zz).toArray) rfl (by kernel_rfl) (by kernel_rfl) (by kernel_rfl) (fun _ _ _ h => h) (yieldsIf_load_mid (by kernel_rfl) _ _ rfl (w.heap.size + 1 + 1) 0 rfl (zz) _ (fun w5 hSw => hSw.c.range) Tryz.underlying32 rfl iz) hS ?_
    simp only [Act.put, List.setIfInBounds_toArray, List.set_cons_zero, List.set_cons_succ]
    refine wpAnyH_ready (rs := [2]) (by kernel_rfl) (by simp) ?_
    refine AllReadyH.cons (o := { dst := some 2, op := Go.Op.assign (Go.Operand.const (Go.Value.string { data := #[] })), type := 9, pos := "order.go:199", after := #[{ on := 0, ground := Go.Ground.textOnly Go.Departure.lateStores }, { on := 1, ground := Go.Ground.textOnly Go.Departure.lateStores }], guard := none }) rfl (fun K hK => ?_) AllReadyH.nil
    rw [if_pos (by kernel_rfl)]
    go_simp
    refine hK.out _ _ hS (fun hS1 => ?_)
    clear hK hS
    refine wpAnyH_ready (rs := [3]) (by kernel_rfl) (by simp) ?_
    refine AllReadyH.cons (o := { dst := some 3, op := Go.Op.assign (Go.Operand.const (Go.Value.string { data := #[] })), type := 9, pos := "order.go:199", after := #[{ on := 2, ground := Go.Ground.chain }, { on := 0, ground := Go.Ground.textOnly Go.Departure.lateStores }, { on := 1, ground := Go.Ground.textOnly Go.Departure.lateStores }, { on := 2, ground := Go.Ground.phase }], guard := none }) rfl (fun K hK => ?_) AllReadyH.nil
    rw [if_pos (by kernel_rfl)]
    go_simp
    refine hK.out _ _ hS1 (fun hS2 => ?_)
    clear hK hS1
    refine wpAnyH_ready (rs := [4]) (by kernel_rfl) (by simp) ?_
    refine AllReadyH.cons (o := { dst := none, op := Go.Op.store 32 (Go.Operand.tmp 4) (Go.Operand.tmp 46), type := 0, pos := "order.go:199", after := #[{ on := 0, ground := Go.Ground.data }, { on := 3, ground := Go.Ground.chain }, { on := 0, ground := Go.Ground.phase }, { on := 1, ground := Go.Ground.textOnly Go.Departure.lateStores }, { on := 2, ground := Go.Ground.phase }, { on := 3, ground := Go.Ground.phase }], guard := none }) rfl (fun K hK => ?_) AllReadyH.nil
    rw [if_pos (by kernel_rfl)]
    refine wp_store_mid _ _ _ rfl (w.heap.size) 0 (zz).toArray rfl rfl (show World.there _ _ _ (List.length zz) from hS2.a.there) iz oz ?_
    simp only [Act.put]
    refine hK.out _ _ (hS2.s0) (fun hS3 => ?_)
    clear hK
    refine wpAnyH_ready (rs := [5]) (by kernel_rfl) (by simp) ?_
    refine AllReadyH.cons (o := { dst := none, op := Go.Op.store 32 (Go.Operand.tmp 5) (Go.Operand.tmp 47), type := 0, pos := "order.go:199", after := #[{ on := 1, ground := Go.Ground.data }, { on := 4, ground := Go.Ground.chain }, { on := 0, ground := Go.Ground.phase }, { on := 1, ground := Go.Ground.phase }, { on := 2, ground := Go.Ground.phase }, { on := 3, ground := Go.Ground.phase }, { on := 4, ground := Go.Ground.phase }], guard := none }) rfl (fun K hK => ?_) AllReadyH.nil
    rw [if_pos (by kernel_rfl)]
    refine wp_store_mid _ _ _ rfl (w.heap.size + 1) 0 (zz).toArray rfl rfl (show World.there _ _ _ (List.length zz) from hS3.b.there) iz oz ?_
    simp only [Act.put]
    refine hK.out _ _ (hS3.s1) (fun hS4 => ?_)
    clear hK
    refine wpAnyH_ready (rs := [6]) (by kernel_rfl) (by simp) ?_
    refine AllReadyH.cons (o := { dst := some 6, op := Go.Op.assign (Go.Operand.const (Go.Value.int Go.IntKind.i64 115)), type := 3, pos := "order.go:199", after := #[{ on := 5, ground := Go.Ground.chain }, { on := 0, ground := Go.Ground.phase }, { on := 1, ground := Go.Ground.phase }, { on := 2, ground := Go.Ground.phase }, { on := 3, ground := Go.Ground.phase }, { on := 4, ground := Go.Ground.phase }, { on := 5, ground := Go.Ground.phase }], guard := none }) rfl (fun K hK => ?_) AllReadyH.nil
    rw [if_pos (by kernel_rfl)]
    go_simp
    refine hK.out _ _ hS4 (fun hS5 => ?_)
    clear hK hS4
    refine wpAnyH_done (by kernel_rfl) ?_ _
    have HY := Hid.of hS5
    clear hS5
    go_wp2
    refine bodyPost_ret (result_t2c2t Tryz.results33 _ _ _ _ zz zz _ _ _ rfl rfl rfl rfl rfl HY.out.a.range Tryz.underlying32 rfl iz HY.out.b.range Tryz.underlying32 rfl iz) rfl ?_
    refine ⟨?_, HY.out.u⟩
    rw [HN.out, HZZ.out]
    rfl
  | some q =>
    obtain ⟨x, y⟩ := q
    have hvl := two_len ht
    obtain ⟨g, off, cc, xa, xb, xc, xd, xe, xf, e', hcc, ⟨k0, k1, k2, k3, k4, k5⟩, ea, eb, ec, ed, ee, ef⟩ := (HSL.out x y ht).sixth
    injection e' with f1 f2 f3
    subst f1 f2 f3
    have HP2 := Hid.of (show prc s.data.toList = if y.1 ≠ x.1 ∨ y.2.1 ≠ x.2.1 ++ GOM then ⟨[], [], Z32, Z32, 115⟩
      else if (rdw x.1 x.2.1 x.2.2 y.2.2).2.2 ≠ 0 then ⟨[], [], Z32, Z32, (rdw x.1 x.2.1 x.2.2 y.2.2).2.2⟩
      else ⟨x.1, x.2.1, (rdw x.1 x.2.1 x.2.2 y.2.2).1, (rdw x.1 x.2.1 x.2.2 y.2.2).2.1, 0⟩ from HP.out.trans (by rw [ht]))
    have hccz : (6 : Int) ≤ (c1 : Int) := by omega
    have hbs : xb.size ≤ 1024 := by rw [← len_of, eb]; exact hvl
    rw [← ea, ← eb, ← ec, ← ed, ← ee, ← ef] at HP2
    clear ht HSL HP hcc hvl ea eb ec ed ee ef
    have hsn : ¬ 9223372036854775807 < xb.size + 7 := by omega
    dsimp only [Option.isSome]
    by_cases h1 : xd.data.toList = xa.data.toList
    · have hq1 : (xa.toList == xd.toList) = true := by rw [Go.Lib.toList_data, Go.Lib.toList_data, h1]; exact beq_self_eq_true _
      by_cases h2 : xe.data.toList = xb.data.toList ++ GOM
      · have hq2 : ((xb ++ ⟨#[47, 103, 111, 46, 109, 111, 100]⟩).toList == xe.toList) = true := by rw [Go.Lib.toList_data, Go.Lib.toList_data, h2, ba_app]; exact beq_self_eq_true _
        have HP3 := Hid.of (HP2.out.trans (if_neg (by rintro (h | h); exact h h1; exact h h2)))
        have HF := fun w' => fun (u : Up w w') => Hid.of (Fits_walk xa xb w' (HTK.out.up u))
        have HRD : Hid (rdw xa.data.toList xb.data.toList xc.data.toList xf.data.toList = if fte xa.data.toList xb.data.toList ≠ 0 then (Z32, Z32, fte xa.data.toList xb.data.toList) else if (psm xc.data.toList).2 ≠ 0 then ((psm xc.data.toList).1, Z32, (psm xc.data.toList).2) else ((psm xc.data.toList).1, (psm xf.data.toList).1, (psm xf.data.toList).2)) := rfl
        generalize fte xa.data.toList xb.data.toList = f at *
        clear h1 h2 HP2
        go_wp2
        go_quiet (fail)
        go_wp2
        clear hq1 hq2 hsn hbs
        refine wp_region_held_drew (S := fun w2 => Up w1 w2) (by kernel_rfl) (((Up.refl w1).drewN _).drew) (fun hS => ?_)
        refine wpAnyH_take (i := 0) (oi := { dst := some 48, op := Go.Op.move (Go.Operand.tmp 8), type := 22, pos := "order.go:201", after := #[], guard := none }) (v := .slice (some ⟨g, off, none⟩) 6 c1) rfl (by kernel_rfl) (by kernel_rfl) (by kernel_rfl) (fun _ _ _ h => h) (Or.inl ⟨by kernel_rfl, ?_⟩) hS ?_
        · intro w5 hSw
          go_simp
        simp only [Act.put, List.setIfInBounds_toArray, List.set_cons_zero, List.set_cons_succ]
        refine wpAnyH_take (i := 1) (oi := { dst := some 49, op := Go.Op.indexAddr 22 (Go.Operand.tmp 48) (Go.Operand.const (Go.Value.int Go.IntKind.i64 0)), type := 0, pos := "order.go:201", after := #[{ on := 0, ground := Go.Ground.data }], guard := none }) (v := .pointer (some ⟨g, off, none⟩)) rfl (by kernel_rfl) (by kernel_rfl) (by kernel_rfl) (fun _ _ _ h => h) (Or.inl ⟨by kernel_rfl, ?_⟩) hS ?_
        · intro w5 hSw
          go_simp
        simp only [Act.put, List.setIfInBounds_toArray, List.set_cons_zero, List.set_cons_succ]
        refine wpAnyH_take (i := 2) (oi := { dst := some 50, op := Go.Op.load 9 (Go.Operand.tmp 49), type := 9, pos := "order.go:201", after := #[{ on := 1, ground := Go.Ground.data }], guard := none }) (v := .string xa) rfl (by kernel_rfl) (by kernel_rfl) (by kernel_rfl) (fun _ _ _ h => h) (Or.inl ⟨by kernel_rfl, ?_⟩) hS ?_
        · intro w5 hSw
          have hq := hSw.cell k0
          go_simp
        simp only [Act.put, List.setIfInBounds_toArray, List.set_cons_zero, List.set_cons_succ]
        refine wpAnyH_take (i := 3) (oi := { dst := some 51, op := Go.Op.move (Go.Operand.tmp 8), type := 22, pos := "order.go:201", after := #[], guard := none }) (v := .slice (some ⟨g, off, none⟩) 6 c1) rfl (by kernel_rfl) (by kernel_rfl) (by kernel_rfl) (fun _ _ _ h => h) (Or.inl ⟨by kernel_rfl, ?_⟩) hS ?_
        · intro w5 hSw
          go_simp
        simp only [Act.put, List.setIfInBounds_toArray, List.set_cons_zero, List.set_cons_succ]
        refine wpAnyH_take (i := 4) (oi := { dst := some 52, op := Go.Op.indexAddr 22 (Go.Operand.tmp 51) (Go.Operand.const (Go.Value.int Go.IntKind.i64 1)), type := 0, pos := "order.go:201", after := #[{ on := 3, ground := Go.Ground.data }], guard := none }) (v := .pointer (some ⟨g, off + 1, none⟩)) rfl (by kernel_rfl) (by kernel_rfl) (by kernel_rfl) (fun _ _ _ h => h) (Or.inl ⟨by kernel_rfl, ?_⟩) hS ?_
        · intro w5 hSw
          go_simp
        simp only [Act.put, List.setIfInBounds_toArray, List.set_cons_zero, List.set_cons_succ]
        refine wpAnyH_take (i := 5) (oi := { dst := some 53, op := Go.Op.load 9 (Go.Operand.tmp 52), type := 9, pos := "order.go:201", after := #[{ on := 4, ground := Go.Ground.data }], guard := none }) (v := .string xb) rfl (by kernel_rfl) (by kernel_rfl) (by kernel_rfl) (fun _ _ _ h => h) (Or.inl ⟨by kernel_rfl, ?_⟩) hS ?_
        · intro w5 hSw
          have hq := hSw.cell k1
          go_simp
        simp only [Act.put, List.setIfInBounds_toArray, List.set_cons_zero, List.set_cons_succ]
        refine wpAnyH_ready (rs := [6]) (by kernel_rfl) (by simp) ?_
        refine AllReadyH.cons (o := { dst := some 54, op := Go.Op.call { callee := Go.Callee.value (Go.Operand.func 51), args := #[Go.Operand.tmp 50, Go.Operand.tmp 53], argTypes := #[9, 9] }, type := 3, pos := "order.go:201", after := #[{ on := 2, ground := Go.Ground.data }, { on := 5, ground := Go.Ground.data }], guard := none }) rfl (fun K hK => ?_) AllReadyH.nil
        rw [if_pos (by kernel_rfl)]
        go_simp
        refine (HF _ (HZ1.out.u.trans hS)).out.mono ?_
        rintro e v1 ⟨rfl, u1⟩
        dsimp only
        refine hK.out _ _ (hS.trans u1) (fun hS1 => ?_)
        clear hK hS
        refine wpAnyH_ready (rs := [7]) (by kernel_rfl) (by simp) ?_
        refine AllReadyH.cons (o := { dst := some 10, op := Go.Op.assign (Go.Operand.tmp 54), type := 3, pos := "order.go:201", after := #[{ on := 6, ground := Go.Ground.data }, { on := 6, ground := Go.Ground.chain }, { on := 0, ground := Go.Ground.phase }, { on := 1, ground := Go.Ground.phase }, { on := 2, ground := Go.Ground.phase }, { on := 3, ground := Go.Ground.phase }, { on := 4, ground := Go.Ground.phase }, { on := 5, ground := Go.Ground.phase }, { on := 6, ground := Go.Ground.phase }], guard := none }) rfl (fun K hK => ?_) AllReadyH.nil
        rw [if_pos (by kernel_rfl)]
        go_simp
        refine hK.out _ _ hS1 (fun hS2 => ?_)
        clear hK hS1
        refine wpAnyH_done (by kernel_rfl) ?_ _
        have H7 := Hid.of hS2
        clear hS2
        have HZ7 := Hid.of (HZ1.out.up H7.out)
        by_cases h0 : f = 0
        · subst h0
          rw [if_neg (by decide)] at HRD
          have hl1 := psm_len xc.data.toList
          have hl2 := psm_len xf.data.toList
          have hm1 := psm_err xc.data.toList
          have hm2 := psm_err xf.data.toList
          have HS1 := fun w' => Hid.of (RParseSum_walk xc w')
          have HS2 := fun w' => Hid.of (RParseSum_walk xf w')
          have hgne : w.heap.size ≠ g ∧ w.heap.size + 1 ≠ g := by
            have e1 := HZ1.out.a
            have e2 := HZ1.out.b
            rw [HZZ.out] at e1 e2
            exact ⟨fun h => by subst h; exact str_row e1 k0, fun h => by subst h; exact str_row e2 k0⟩
          generalize psm xc.data.toList = r1 at *
          generalize psm xf.data.toList = r2 at *
          obtain ⟨t1, m1⟩ := r1
          obtain ⟨t2, m2⟩ := r2
          dsimp only at hl1 hl2 hm1 hm2 HS1 HS2 HRD
          have n1 : (cb t1).length = 32 := by rw [cb_length, hl1]
          have n2 : (cb t2).length = 32 := by rw [cb_length, hl2]
          have i1 := i32 hl1
          have i2 := i32 hl2
          have o1 := cb_all t1
          have o2 := cb_all t2
          have lz : zz.length = 32 := by rw [HZZ.out]; rfl
          have HG := Hid.of hgne
          have HM := Hid.of (And.intro hm1 hm2)
          clear hm1 hm2 hgne
          have j2 := H7.out.cell k2
          go_wp2_with fail
          refine (HS1 _).out.mono ?_
          rintro e w4 ⟨rfl, u4⟩
          have H4 := Hid.of (H7.out.trans u4)
          clear u4 HS1 j2
          dsimp only
          go_wp2_with (with_reducible show wpList _ _ _ ({ dst := _, op := Op.store 32 _ _, type := _, pos := _, after := _, guard := _ } :: _) _ _; refine Shut.out ?_)
          show wpList _ _ _ _ _ _
          rw [HLit.out]
          refine wpList_store_at rfl _ _ _ rfl w4.heap.size (at_new w4 32 zz) (cb t1) rfl rfl (by rw [n1, lz]) (by rw [List.size_toArray, n1]; kernel_rfl) o1 fun x5 hA5 hg5 => ?_
          have HA5 := Hid.of hA5
          have HU5 := Hid.of ((H4.out.alloc (.cells zz.toArray 32)).by hg5 (fun g hg => by injection hg with hg; have := H4.out.size; omega))
          have HW4 := Hid.of H4.out.size
          clear hA5 hg5 H4
          simp only [Act.put]
          have j5 := HU5.out.cell k5
          go_wp2_with fail
          refine (HS2 _).out.mono ?_
          rintro e w6 ⟨rfl, u6⟩
          have H6 := Hid.of (HU5.out.trans u6)
          have HA6 := Hid.of (HA5.out.up u6)
          clear u6 HS2 j5 HA5 HU5
          dsimp only
          go_wp2_with (with_reducible show wpList _ _ _ ({ dst := _, op := Op.store 32 _ _, type := _, pos := _, after := _, guard := _ } :: _) _ _; refine Shut.out ?_)
          show wpList _ _ _ _ _ _
          rw [HLit.out]
          refine wpList_store_at rfl _ _ _ rfl w6.heap.size (at_new w6 32 zz) (cb t2) rfl rfl (by rw [n2, lz]) (by rw [List.size_toArray, n2]; kernel_rfl) o2 fun x7 hA7 hg7 => ?_
          have HA7 := Hid.of hA7
          have HA8 := Hid.of ((HA6.out.up ((Up.refl w6).alloc (.cells zz.toArray 32))).by hg7 (fun e => by injection e with e; have := lt_of_at HA6.out; omega))
          have HU7 := Hid.of ((H6.out.alloc (.cells zz.toArray 32)).by hg7 (fun g hg => by injection hg with hg; have := H6.out.size; omega))
          have HLT := Hid.of (And.intro (lt_of_at HA6.out) (And.intro (lt_of_at HZ1.out.a) (lt_of_at HZ1.out.b)))
          clear hA7 hg7 H6 HA6
          simp only [Act.put]
          have HZ9 := Hid.of (HZ1.out.up HU7.out)
          by_cases hm1 : m1 = 0
          · subst hm1
            rw [if_neg (by decide)] at HRD
            by_cases hm2 : m2 = 0
            · subst hm2
              have HN := Hid.of (show prc s.data.toList = ⟨xa.data.toList, xb.data.toList, t1, t2, 0⟩ by
                rw [HP3.out, HRD.out]
                rfl)
              have hne0 : w.heap.size ≠ g ∧ w.heap.size ≠ w4.heap.size ∧ w.heap.size ≠ w6.heap.size := by
                obtain ⟨q1, q2, q3⟩ := HLT.out
                have q4 := HW4.out
                exact ⟨HG.out.1, by omega, by omega⟩
              have hne1 : w.heap.size + 1 ≠ g ∧ w.heap.size + 1 ≠ w4.heap.size ∧ w.heap.size + 1 ≠ w6.heap.size := by
                obtain ⟨q1, q2, q3⟩ := HLT.out
                have q4 := HW4.out
                exact ⟨HG.out.2, by omega, by omega⟩
              have HF4 := Hid.of (show F4 w x7 g off xa xb w4.heap.size w6.heap.size (cb t1) (cb t2) from ⟨HZ9.out.u, HU7.out.cell k0, HU7.out.cell k1, HA8.out.range, HA7.out.range, by have := HZ9.out.a.there; rwa [lz] at this, by have := HZ9.out.b.there; rwa [lz] at this⟩)
              clear HP3 HRD HG HM HLT HW4
              go_wp2
              refine wp_region_held_drew (S := fun w2 => F4 w w2 g off xa xb w4.heap.size w6.heap.size (cb t1) (cb t2)) (by kernel_rfl) (HF4.out.drew) (fun hS => ?_)
              refine wpAnyH_take (i := 0) (oi := { dst := some 82, op := Go.Op.move (Go.Operand.tmp 8), type := 22, pos := "order.go:210", after := #[], guard := none }) (v := .slice (some ⟨g, off, none⟩) 6 c1) rfl (by kernel_rfl) (by kernel_rfl) (by kernel_rfl) (fun _ _ _ h => h) (Or.inl ⟨by kernel_rfl, ?_⟩) hS ?_
              · intro w5 hSw
                go_simp
              simp only [Act.put, List.setIfInBounds_toArray, List.set_cons_zero, List.set_cons_succ]
              refine wpAnyH_take (i := 1) (oi := { dst := some 83, op := Go.Op.indexAddr 22 (Go.Operand.tmp 82) (Go.Operand.const (Go.Value.int Go.IntKind.i64 0)), type := 0, pos := "order.go:210", after := #[{ on := 0, ground := Go.Ground.data }], guard := none }) (v := .pointer (some ⟨g, off, none⟩)) rfl (by kernel_rfl) (by kernel_rfl) (by kernel_rfl) (fun _ _ _ h => h) (Or.inl ⟨by kernel_rfl, ?_⟩) hS ?_
              · intro w5 hSw
                go_simp
              simp only [Act.put, List.setIfInBounds_toArray, List.set_cons_zero, List.set_cons_succ]
              refine wpAnyH_take (i := 2) (oi := { dst := some 84, op := Go.Op.load 9 (Go.Operand.tmp 83), type := 9, pos := "order.go:210", after := #[{ on := 1, ground := Go.Ground.data }], guard := none }) (v := .string xa) rfl (by kernel_rfl) (by kernel_rfl) (by kernel_rfl) (fun _ _ _ h => h) (Or.inl ⟨by kernel_rfl, ?_⟩) hS ?_
              · intro w5 hSw
                have hq := hSw.c0
                go_simp
              simp only [Act.put, List.setIfInBounds_toArray, List.set_cons_zero, List.set_cons_succ]
              refine wpAnyH_take (i := 3) (oi := { dst := some 85, op := Go.Op.move (Go.Operand.tmp 8), type := 22, pos := "order.go:210", after := #[{ on := 8, ground := Go.Ground.gcOnly Go.Departure.lateStores }], guard := none }) (v := .slice (some ⟨g, off, none⟩) 6 c1) rfl (by kernel_rfl) (by kernel_rfl) (by kernel_rfl) (fun _ _ _ h => h) (Or.inl ⟨by kernel_rfl, ?_⟩) hS ?_
              · intro w5 hSw
                go_simp
              simp only [Act.put, List.setIfInBounds_toArray, List.set_cons_zero, List.set_cons_succ]
              refine wpAnyH_take (i := 4) (oi := { dst := some 86, op := Go.Op.indexAddr 22 (Go.Operand.tmp 85) (Go.Operand.const (Go.Value.int Go.IntKind.i64 1)), type := 0, pos := "order.go:210", after := #[{ on := 3, ground := Go.Ground.data }, { on := 8, ground := Go.Ground.gcOnly Go.Departure.lateStores }], guard := none }) (v := .pointer (some ⟨g, off + 1, none⟩)) rfl (by kernel_rfl) (by kernel_rfl) (by kernel_rfl) (fun _ _ _ h => h) (Or.inl ⟨by kernel_rfl, ?_⟩) hS ?_
              · intro w5 hSw
                go_simp
              simp only [Act.put, List.setIfInBounds_toArray, List.set_cons_zero, List.set_cons_succ]
              refine wpAnyH_take (i := 5) (oi := { dst := some 87, op := Go.Op.load 9 (Go.Operand.tmp 86), type := 9, pos := "order.go:210", after := #[{ on := 4, ground := Go.Ground.data }, { on := 8, ground := Go.Ground.gcOnly Go.Departure.lateStores }], guard := none }) (v := .string xb) rfl (by kernel_rfl) (by kernel_rfl) (by kernel_rfl) (fun _ _ _ h => h) (Or.inl ⟨by kernel_rfl, ?_⟩) hS ?_
              · intro w5 hSw
                have hq := hSw.c1
                go_simp
              simp only [Act.put, List.setIfInBounds_toArray, List.set_cons_zero, List.set_cons_succ]
              refine wpAnyH_take (i := 6) (oi := { dst := some 88, op := Go.Op.load 32 (Go.Operand.tmp 11), type := 32, pos := "order.go:210", after := #[{ on := 9, ground := Go.Ground.gcOnly Go.Departure.lateStores }], guard := none }) (v := .agg (cb t1).toArray) rfl (by kernel_rfl) (by kernel_rfl) (by kernel_rfl) (fun _ _ _ h => h) (yieldsIf_load_mid (by kernel_rfl) _ _ rfl (w4.heap.size) 0 rfl (cb t1) _ (fun w5 hSw => hSw.r1) Tryz.underlying32 rfl i1) hS ?_
              simp only [Act.put, List.setIfInBounds_toArray, List.set_cons_zero, List.set_cons_succ]
              refine wpAnyH_take (i := 7) (oi := { dst := some 89, op := Go.Op.load 32 (Go.Operand.tmp 13), type := 32, pos := "order.go:210", after := #[{ on := 10, ground := Go.Ground.gcOnly Go.Departure.lateStores }], guard := none }) (v := .agg (cb t2).toArray) rfl (by kernel_rfl) (by kernel_rfl) (by kernel_rfl) (fun _ _ _ h => h) (yieldsIf_load_mid (by kernel_rfl) _ _ rfl (w6.heap.size) 0 rfl (cb t2) _ (fun w5 hSw => hSw.r2) Tryz.underlying32 rfl i2) hS ?_
              simp only [Act.put, List.setIfInBounds_toArray, List.set_cons_zero, List.set_cons_succ]
              refine wpAnyH_ready (rs := [8]) (by kernel_rfl) (by simp) ?_
              refine AllReadyH.cons (o := { dst := some 2, op := Go.Op.assign (Go.Operand.tmp 84), type := 9, pos := "order.go:210", after := #[{ on := 2, ground := Go.Ground.data }, { on := 0, ground := Go.Ground.phase }, { on := 1, ground := Go.Ground.phase }, { on := 2, ground := Go.Ground.phase }, { on := 3, ground := Go.Ground.textOnly Go.Departure.lateStores }, { on := 4, ground := Go.Ground.textOnly Go.Departure.lateStores }, { on := 5, ground := Go.Ground.textOnly Go.Departure.lateStores }, { on := 6, ground := Go.Ground.textOnly Go.Departure.lateStores }, { on := 7, ground := Go.Ground.textOnly Go.Departure.lateStores }], guard := none }) rfl (fun K hK => ?_) AllReadyH.nil
              rw [if_pos (by kernel_rfl)]
              go_simp
              refine hK.out _ _ hS (fun hS1 => ?_)
              clear hK hS
              refine wpAnyH_ready (rs := [9]) (by kernel_rfl) (by simp) ?_
              refine AllReadyH.cons (o := { dst := some 3, op := Go.Op.assign (Go.Operand.tmp 87), type := 9, pos := "order.go:210", after := #[{ on := 5, ground := Go.Ground.data }, { on := 8, ground := Go.Ground.chain }, { on := 0, ground := Go.Ground.phase }, { on := 1, ground := Go.Ground.phase }, { on := 2, ground := Go.Ground.phase }, { on := 3, ground := Go.Ground.phase }, { on := 4, ground := Go.Ground.phase }, { on := 5, ground := Go.Ground.phase }, { on := 6, ground := Go.Ground.textOnly Go.Departure.lateStores }, { on := 7, ground := Go.Ground.textOnly Go.Departure.lateStores }, { on := 8, ground := Go.Ground.phase }], guard := none }) rfl (fun K hK => ?_) AllReadyH.nil
              rw [if_pos (by kernel_rfl)]
              go_simp
              refine hK.out _ _ hS1 (fun hS2 => ?_)
              clear hK hS1
              refine wpAnyH_ready (rs := [10]) (by kernel_rfl) (by simp) ?_
              refine AllReadyH.cons (o := { dst := none, op := Go.Op.store 32 (Go.Operand.tmp 4) (Go.Operand.tmp 88), type := 0, pos := "order.go:210", after := #[{ on := 6, ground := Go.Ground.data }, { on := 9, ground := Go.Ground.chain }, { on := 0, ground := Go.Ground.phase }, { on := 1, ground := Go.Ground.phase }, { on := 2, ground := Go.Ground.phase }, { on := 3, ground := Go.Ground.phase }, { on := 4, ground := Go.Ground.phase }, { on := 5, ground := Go.Ground.phase }, { on := 6, ground := Go.Ground.phase }, { on := 7, ground := Go.Ground.textOnly Go.Departure.lateStores }, { on := 8, ground := Go.Ground.phase }, { on := 9, ground := Go.Ground.phase }], guard := none }) rfl (fun K hK => ?_) AllReadyH.nil
              rw [if_pos (by kernel_rfl)]
              refine wp_store_mid _ _ _ rfl (w.heap.size) 0 (cb t1).toArray rfl rfl (show World.there _ _ _ (List.length (cb t1)) from (by rw [n1]; exact hS2.th0)) i1 o1 ?_
              simp only [Act.put]
              refine hK.out _ _ (hS2.st (Nat.le_refl _) hne0.1 hne0.2.1 hne0.2.2 (cb t1)) (fun hS3 => ?_)
              clear hK
              refine wpAnyH_ready (rs := [11]) (by kernel_rfl) (by simp) ?_
              refine AllReadyH.cons (o := { dst := none, op := Go.Op.store 32 (Go.Operand.tmp 5) (Go.Operand.tmp 89), type := 0, pos := "order.go:210", after := #[{ on := 7, ground := Go.Ground.data }, { on := 10, ground := Go.Ground.chain }, { on := 0, ground := Go.Ground.phase }, { on := 1, ground := Go.Ground.phase }, { on := 2, ground := Go.Ground.phase }, { on := 3, ground := Go.Ground.phase }, { on := 4, ground := Go.Ground.phase }, { on := 5, ground := Go.Ground.phase }, { on := 6, ground := Go.Ground.phase }, { on := 7, ground := Go.Ground.phase }, { on := 8, ground := Go.Ground.phase }, { on := 9, ground := Go.Ground.phase }, { on := 10, ground := Go.Ground.phase }], guard := none }) rfl (fun K hK => ?_) AllReadyH.nil
              rw [if_pos (by kernel_rfl)]
              refine wp_store_mid _ _ _ rfl (w.heap.size + 1) 0 (cb t2).toArray rfl rfl (show World.there _ _ _ (List.length (cb t2)) from (by rw [n2]; exact hS3.th1)) i2 o2 ?_
              simp only [Act.put]
              refine hK.out _ _ (hS3.st (by omega) hne1.1 hne1.2.1 hne1.2.2 (cb t2)) (fun hS4 => ?_)
              clear hK
              refine wpAnyH_ready (rs := [12]) (by kernel_rfl) (by simp) ?_
              refine AllReadyH.cons (o := { dst := some 6, op := Go.Op.assign (Go.Operand.const (Go.Value.int Go.IntKind.i64 0)), type := 3, pos := "order.go:210", after := #[{ on := 11, ground := Go.Ground.chain }, { on := 0, ground := Go.Ground.phase }, { on := 1, ground := Go.Ground.phase }, { on := 2, ground := Go.Ground.phase }, { on := 3, ground := Go.Ground.phase }, { on := 4, ground := Go.Ground.phase }, { on := 5, ground := Go.Ground.phase }, { on := 6, ground := Go.Ground.phase }, { on := 7, ground := Go.Ground.phase }, { on := 8, ground := Go.Ground.phase }, { on := 9, ground := Go.Ground.phase }, { on := 10, ground := Go.Ground.phase }, { on := 11, ground := Go.Ground.phase }], guard := none }) rfl (fun K hK => ?_) AllReadyH.nil
              rw [if_pos (by kernel_rfl)]
              go_simp
              refine hK.out _ _ hS4 (fun hS5 => ?_)
              clear hK hS4
              refine wpAnyH_done (by kernel_rfl) ?_ _
              have HY := Hid.of hS5
              clear hS5
              go_wp2
              refine bodyPost_ret (result_t2c2t Tryz.results33 _ _ _ _ (cb t1) (cb t2) _ _ _ rfl rfl rfl rfl rfl (World.rangeAt_setCells_apart (World.rangeAt_setCells_same _ _ _ (cb t1) (by rw [n1]; exact hS2.th0)) _ _ (cb t2) (.inl (by omega))) Tryz.underlying32 rfl i1 (World.rangeAt_setCells_same _ _ _ (cb t2) (by rw [n2]; exact hS3.th1)) Tryz.underlying32 rfl i2) rfl ?_
              refine ⟨?_, HY.out.u⟩
              rw [HN.out]
              rfl
            · have hm2z : (m2 != 0) = true := by rw [bne_iff_ne]; exact hm2
              have HN := Hid.of (show prc s.data.toList = ⟨[], [], Z32, Z32, 114⟩ by
                rw [HP3.out, HRD.out, if_pos hm2, HM.out.2.resolve_left hm2])
              clear hm2
              go_wp2
              refine wp_region_held_drew (S := fun w2 => Z3 w w2 zz) (by kernel_rfl) (HZ9.out.up ((Up.refl x7).drew)) (fun hS => ?_)
              refine wpAnyH_take (i := 0) (oi := { dst := some 80, op := Go.Op.load 32 (Go.Operand.tmp 7), type := 32, pos := "order.go:208", after := #[{ on := 3, ground := Go.Ground.gcOnly Go.Departure.lateStores }], guard := none }) (v := .agg (zz).toArray) rfl (by kernel_rfl) (by kernel_rfl) (by kernel_rfl) (fun _ _ _ h => h) (yieldsIf_load_mid (by kernel_rfl) _ _ rfl (w.heap.size + 1 + 1) 0 rfl (zz) _ (fun w5 hSw => hSw.c.range) Tryz.underlying32 rfl iz) hS ?_
              simp only [Act.put, List.setIfInBounds_toArray, List.set_cons_zero, List.set_cons_succ]
              refine wpAnyH_take (i := 1) (oi := { dst := some 81, op := Go.Op.load 32 (Go.Operand.tmp 7), type := 32, pos := "order.go:208", after := #[{ on := 4, ground := Go.Ground.gcOnly Go.Departure.lateStores }], guard := none }) (v := .agg (zz).toArray) rfl (by kernel_rfl) (by kernel_rfl) (by kernel_rfl) (fun _ _ _ h => h) (yieldsIf_load_mid (by kernel_rfl) _ _ rfl (w.heap.size + 1 + 1) 0 rfl (zz) _ (fun w5 hSw => hSw.c.range) Tryz.underlying32 rfl iz) hS ?_
              simp only [Act.put, List.setIfInBounds_toArray, List.set_cons_zero, List.set_cons_succ]
              refine wpAnyH_ready (rs := [2]) (by kernel_rfl) (by simp) ?_
              refine AllReadyH.cons (o := { dst := some 2, op := Go.Op.assign (Go.Operand.const (Go.Value.string { data := #[] })), type := 9, pos := "order.go:208", after := #[{ on := 0, ground := Go.Ground.textOnly Go.Departure.lateStores }, { on := 1, ground := Go.Ground.textOnly Go.Departure.lateStores }], guard := none }) rfl (fun K hK => ?_) AllReadyH.nil
              rw [if_pos (by kernel_rfl)]
              go_simp
              refine hK.out _ _ hS (fun hS1 => ?_)
              clear hK hS
              refine wpAnyH_ready (rs := [3]) (by kernel_rfl) (by simp) ?_
              refine AllReadyH.cons (o := { dst := some 3, op := Go.Op.assign (Go.Operand.const (Go.Value.string { data := #[] })), type := 9, pos := "order.go:208", after := #[{ on := 2, ground := Go.Ground.chain }, { on := 0, ground := Go.Ground.textOnly Go.Departure.lateStores }, { on := 1, ground := Go.Ground.textOnly Go.Departure.lateStores }, { on := 2, ground := Go.Ground.phase }], guard := none }) rfl (fun K hK => ?_) AllReadyH.nil
              rw [if_pos (by kernel_rfl)]
              go_simp
              refine hK.out _ _ hS1 (fun hS2 => ?_)
              clear hK hS1
              refine wpAnyH_ready (rs := [4]) (by kernel_rfl) (by simp) ?_
              refine AllReadyH.cons (o := { dst := none, op := Go.Op.store 32 (Go.Operand.tmp 4) (Go.Operand.tmp 80), type := 0, pos := "order.go:208", after := #[{ on := 0, ground := Go.Ground.data }, { on := 3, ground := Go.Ground.chain }, { on := 0, ground := Go.Ground.phase }, { on := 1, ground := Go.Ground.textOnly Go.Departure.lateStores }, { on := 2, ground := Go.Ground.phase }, { on := 3, ground := Go.Ground.phase }], guard := none }) rfl (fun K hK => ?_) AllReadyH.nil
              rw [if_pos (by kernel_rfl)]
              refine wp_store_mid _ _ _ rfl (w.heap.size) 0 (zz).toArray rfl rfl (show World.there _ _ _ (List.length zz) from hS2.a.there) iz oz ?_
              simp only [Act.put]
              refine hK.out _ _ (hS2.s0) (fun hS3 => ?_)
              clear hK
              refine wpAnyH_ready (rs := [5]) (by kernel_rfl) (by simp) ?_
              refine AllReadyH.cons (o := { dst := none, op := Go.Op.store 32 (Go.Operand.tmp 5) (Go.Operand.tmp 81), type := 0, pos := "order.go:208", after := #[{ on := 1, ground := Go.Ground.data }, { on := 4, ground := Go.Ground.chain }, { on := 0, ground := Go.Ground.phase }, { on := 1, ground := Go.Ground.phase }, { on := 2, ground := Go.Ground.phase }, { on := 3, ground := Go.Ground.phase }, { on := 4, ground := Go.Ground.phase }], guard := none }) rfl (fun K hK => ?_) AllReadyH.nil
              rw [if_pos (by kernel_rfl)]
              refine wp_store_mid _ _ _ rfl (w.heap.size + 1) 0 (zz).toArray rfl rfl (show World.there _ _ _ (List.length zz) from hS3.b.there) iz oz ?_
              simp only [Act.put]
              refine hK.out _ _ (hS3.s1) (fun hS4 => ?_)
              clear hK
              refine wpAnyH_ready (rs := [6]) (by kernel_rfl) (by simp) ?_
              refine AllReadyH.cons (o := { dst := some 6, op := Go.Op.assign (Go.Operand.const (Go.Value.int Go.IntKind.i64 114)), type := 3, pos := "order.go:208", after := #[{ on := 5, ground := Go.Ground.chain }, { on := 0, ground := Go.Ground.phase }, { on := 1, ground := Go.Ground.phase }, { on := 2, ground := Go.Ground.phase }, { on := 3, ground := Go.Ground.phase }, { on := 4, ground := Go.Ground.phase }, { on := 5, ground := Go.Ground.phase }], guard := none }) rfl (fun K hK => ?_) AllReadyH.nil
              rw [if_pos (by kernel_rfl)]
              go_simp
              refine hK.out _ _ hS4 (fun hS5 => ?_)
              clear hK hS4
              refine wpAnyH_done (by kernel_rfl) ?_ _
              have HY := Hid.of hS5
              clear hS5
              go_wp2
              refine bodyPost_ret (result_t2c2t Tryz.results33 _ _ _ _ zz zz _ _ _ rfl rfl rfl rfl rfl HY.out.a.range Tryz.underlying32 rfl iz HY.out.b.range Tryz.underlying32 rfl iz) rfl ?_
              refine ⟨?_, HY.out.u⟩
              rw [HN.out, HZZ.out]
              rfl
          · have hm1z : (m1 != 0) = true := by rw [bne_iff_ne]; exact hm1
            rw [if_pos hm1] at HRD
            have HN := Hid.of (show prc s.data.toList = ⟨[], [], Z32, Z32, 114⟩ by
              rw [HP3.out, HRD.out, if_pos hm1, HM.out.1.resolve_left hm1])
            clear hm1
            go_wp2
            refine wp_region_held_drew (S := fun w2 => Z3 w w2 zz) (by kernel_rfl) (HZ9.out.up ((Up.refl x7).drew)) (fun hS => ?_)
            refine wpAnyH_take (i := 0) (oi := { dst := some 80, op := Go.Op.load 32 (Go.Operand.tmp 7), type := 32, pos := "order.go:208", after := #[{ on := 3, ground := Go.Ground.gcOnly Go.Departure.lateStores }], guard := none }) (v := .agg (zz).toArray) rfl (by kernel_rfl) (by kernel_rfl) (by kernel_rfl) (fun _ _ _ h => h) (yieldsIf_load_mid (by kernel_rfl) _ _ rfl (w.heap.size + 1 + 1) 0 rfl (zz) _ (fun w5 hSw => hSw.c.range) Tryz.underlying32 rfl iz) hS ?_
            simp only [Act.put, List.setIfInBounds_toArray, List.set_cons_zero, List.set_cons_succ]
            refine wpAnyH_take (i := 1) (oi := { dst := some 81, op := Go.Op.load 32 (Go.Operand.tmp 7), type := 32, pos := "order.go:208", after := #[{ on := 4, ground := Go.Ground.gcOnly Go.Departure.lateStores }], guard := none }) (v := .agg (zz).toArray) rfl (by kernel_rfl) (by kernel_rfl) (by kernel_rfl) (fun _ _ _ h => h) (yieldsIf_load_mid (by kernel_rfl) _ _ rfl (w.heap.size + 1 + 1) 0 rfl (zz) _ (fun w5 hSw => hSw.c.range) Tryz.underlying32 rfl iz) hS ?_
            simp only [Act.put, List.setIfInBounds_toArray, List.set_cons_zero, List.set_cons_succ]
            refine wpAnyH_ready (rs := [2]) (by kernel_rfl) (by simp) ?_
            refine AllReadyH.cons (o := { dst := some 2, op := Go.Op.assign (Go.Operand.const (Go.Value.string { data := #[] })), type := 9, pos := "order.go:208", after := #[{ on := 0, ground := Go.Ground.textOnly Go.Departure.lateStores }, { on := 1, ground := Go.Ground.textOnly Go.Departure.lateStores }], guard := none }) rfl (fun K hK => ?_) AllReadyH.nil
            rw [if_pos (by kernel_rfl)]
            go_simp
            refine hK.out _ _ hS (fun hS1 => ?_)
            clear hK hS
            refine wpAnyH_ready (rs := [3]) (by kernel_rfl) (by simp) ?_
            refine AllReadyH.cons (o := { dst := some 3, op := Go.Op.assign (Go.Operand.const (Go.Value.string { data := #[] })), type := 9, pos := "order.go:208", after := #[{ on := 2, ground := Go.Ground.chain }, { on := 0, ground := Go.Ground.textOnly Go.Departure.lateStores }, { on := 1, ground := Go.Ground.textOnly Go.Departure.lateStores }, { on := 2, ground := Go.Ground.phase }], guard := none }) rfl (fun K hK => ?_) AllReadyH.nil
            rw [if_pos (by kernel_rfl)]
            go_simp
            refine hK.out _ _ hS1 (fun hS2 => ?_)
            clear hK hS1
            refine wpAnyH_ready (rs := [4]) (by kernel_rfl) (by simp) ?_
            refine AllReadyH.cons (o := { dst := none, op := Go.Op.store 32 (Go.Operand.tmp 4) (Go.Operand.tmp 80), type := 0, pos := "order.go:208", after := #[{ on := 0, ground := Go.Ground.data }, { on := 3, ground := Go.Ground.chain }, { on := 0, ground := Go.Ground.phase }, { on := 1, ground := Go.Ground.textOnly Go.Departure.lateStores }, { on := 2, ground := Go.Ground.phase }, { on := 3, ground := Go.Ground.phase }], guard := none }) rfl (fun K hK => ?_) AllReadyH.nil
            rw [if_pos (by kernel_rfl)]
            refine wp_store_mid _ _ _ rfl (w.heap.size) 0 (zz).toArray rfl rfl (show World.there _ _ _ (List.length zz) from hS2.a.there) iz oz ?_
            simp only [Act.put]
            refine hK.out _ _ (hS2.s0) (fun hS3 => ?_)
            clear hK
            refine wpAnyH_ready (rs := [5]) (by kernel_rfl) (by simp) ?_
            refine AllReadyH.cons (o := { dst := none, op := Go.Op.store 32 (Go.Operand.tmp 5) (Go.Operand.tmp 81), type := 0, pos := "order.go:208", after := #[{ on := 1, ground := Go.Ground.data }, { on := 4, ground := Go.Ground.chain }, { on := 0, ground := Go.Ground.phase }, { on := 1, ground := Go.Ground.phase }, { on := 2, ground := Go.Ground.phase }, { on := 3, ground := Go.Ground.phase }, { on := 4, ground := Go.Ground.phase }], guard := none }) rfl (fun K hK => ?_) AllReadyH.nil
            rw [if_pos (by kernel_rfl)]
            refine wp_store_mid _ _ _ rfl (w.heap.size + 1) 0 (zz).toArray rfl rfl (show World.there _ _ _ (List.length zz) from hS3.b.there) iz oz ?_
            simp only [Act.put]
            refine hK.out _ _ (hS3.s1) (fun hS4 => ?_)
            clear hK
            refine wpAnyH_ready (rs := [6]) (by kernel_rfl) (by simp) ?_
            refine AllReadyH.cons (o := { dst := some 6, op := Go.Op.assign (Go.Operand.const (Go.Value.int Go.IntKind.i64 114)), type := 3, pos := "order.go:208", after := #[{ on := 5, ground := Go.Ground.chain }, { on := 0, ground := Go.Ground.phase }, { on := 1, ground := Go.Ground.phase }, { on := 2, ground := Go.Ground.phase }, { on := 3, ground := Go.Ground.phase }, { on := 4, ground := Go.Ground.phase }, { on := 5, ground := Go.Ground.phase }], guard := none }) rfl (fun K hK => ?_) AllReadyH.nil
            rw [if_pos (by kernel_rfl)]
            go_simp
            refine hK.out _ _ hS4 (fun hS5 => ?_)
            clear hK hS4
            refine wpAnyH_done (by kernel_rfl) ?_ _
            have HY := Hid.of hS5
            clear hS5
            go_wp2
            refine bodyPost_ret (result_t2c2t Tryz.results33 _ _ _ _ zz zz _ _ _ rfl rfl rfl rfl rfl HY.out.a.range Tryz.underlying32 rfl iz HY.out.b.range Tryz.underlying32 rfl iz) rfl ?_
            refine ⟨?_, HY.out.u⟩
            rw [HN.out, HZZ.out]
            rfl
        · have h0z : (f != 0) = true := by rw [bne_iff_ne]; exact h0
          rw [if_pos h0] at HRD
          have HN := Hid.of (show prc s.data.toList = ⟨[], [], Z32, Z32, f⟩ by
            rw [HP3.out, HRD.out, if_pos h0])
          clear h0
          go_wp2
          refine wp_region_held_drew (S := fun w2 => Z3 w w2 zz) (by kernel_rfl) (HZ7.out.up ((Up.refl _).drew)) (fun hS => ?_)
          refine wpAnyH_take (i := 0) (oi := { dst := some 57, op := Go.Op.load 32 (Go.Operand.tmp 7), type := 32, pos := "order.go:203", after := #[{ on := 4, ground := Go.Ground.gcOnly Go.Departure.lateStores }], guard := none }) (v := .agg (zz).toArray) rfl (by kernel_rfl) (by kernel_rfl) (by kernel_rfl) (fun _ _ _ h => h) (yieldsIf_load_mid (by kernel_rfl) _ _ rfl (w.heap.size + 1 + 1) 0 rfl (zz) _ (fun w5 hSw => hSw.c.range) Tryz.underlying32 rfl iz) hS ?_
          simp only [Act.put, List.setIfInBounds_toArray, List.set_cons_zero, List.set_cons_succ]
          refine wpAnyH_take (i := 1) (oi := { dst := some 58, op := Go.Op.load 32 (Go.Operand.tmp 7), type := 32, pos := "order.go:203", after := #[{ on := 5, ground := Go.Ground.gcOnly Go.Departure.lateStores }], guard := none }) (v := .agg (zz).toArray) rfl (by kernel_rfl) (by kernel_rfl) (by kernel_rfl) (fun _ _ _ h => h) (yieldsIf_load_mid (by kernel_rfl) _ _ rfl (w.heap.size + 1 + 1) 0 rfl (zz) _ (fun w5 hSw => hSw.c.range) Tryz.underlying32 rfl iz) hS ?_
          simp only [Act.put, List.setIfInBounds_toArray, List.set_cons_zero, List.set_cons_succ]
          refine wpAnyH_take (i := 2) (oi := { dst := some 59, op := Go.Op.move (Go.Operand.tmp 10), type := 3, pos := "order.go:203", after := #[{ on := 6, ground := Go.Ground.gcOnly Go.Departure.lateStores }], guard := none }) (v := .int .i64 f) rfl (by kernel_rfl) (by kernel_rfl) (by kernel_rfl) (fun _ _ _ h => h) (Or.inl ⟨by kernel_rfl, ?_⟩) hS ?_
          · intro w5 hSw
            go_simp
          simp only [Act.put, List.setIfInBounds_toArray, List.set_cons_zero, List.set_cons_succ]
          refine wpAnyH_ready (rs := [3]) (by kernel_rfl) (by simp) ?_
          refine AllReadyH.cons (o := { dst := some 2, op := Go.Op.assign (Go.Operand.const (Go.Value.string { data := #[] })), type := 9, pos := "order.go:203", after := #[{ on := 0, ground := Go.Ground.textOnly Go.Departure.lateStores }, { on := 1, ground := Go.Ground.textOnly Go.Departure.lateStores }, { on := 2, ground := Go.Ground.textOnly Go.Departure.lateStores }], guard := none }) rfl (fun K hK => ?_) AllReadyH.nil
          rw [if_pos (by kernel_rfl)]
          go_simp
          refine hK.out _ _ hS (fun hS1 => ?_)
          clear hK hS
          refine wpAnyH_ready (rs := [4]) (by kernel_rfl) (by simp) ?_
          refine AllReadyH.cons (o := { dst := some 3, op := Go.Op.assign (Go.Operand.const (Go.Value.string { data := #[] })), type := 9, pos := "order.go:203", after := #[{ on := 3, ground := Go.Ground.chain }, { on := 0, ground := Go.Ground.textOnly Go.Departure.lateStores }, { on := 1, ground := Go.Ground.textOnly Go.Departure.lateStores }, { on := 2, ground := Go.Ground.textOnly Go.Departure.lateStores }, { on := 3, ground := Go.Ground.phase }], guard := none }) rfl (fun K hK => ?_) AllReadyH.nil
          rw [if_pos (by kernel_rfl)]
          go_simp
          refine hK.out _ _ hS1 (fun hS2 => ?_)
          clear hK hS1
          refine wpAnyH_ready (rs := [5]) (by kernel_rfl) (by simp) ?_
          refine AllReadyH.cons (o := { dst := none, op := Go.Op.store 32 (Go.Operand.tmp 4) (Go.Operand.tmp 57), type := 0, pos := "order.go:203", after := #[{ on := 0, ground := Go.Ground.data }, { on := 4, ground := Go.Ground.chain }, { on := 0, ground := Go.Ground.phase }, { on := 1, ground := Go.Ground.textOnly Go.Departure.lateStores }, { on := 2, ground := Go.Ground.textOnly Go.Departure.lateStores }, { on := 3, ground := Go.Ground.phase }, { on := 4, ground := Go.Ground.phase }], guard := none }) rfl (fun K hK => ?_) AllReadyH.nil
          rw [if_pos (by kernel_rfl)]
          refine wp_store_mid _ _ _ rfl (w.heap.size) 0 (zz).toArray rfl rfl (show World.there _ _ _ (List.length zz) from hS2.a.there) iz oz ?_
          simp only [Act.put]
          refine hK.out _ _ (hS2.s0) (fun hS3 => ?_)
          clear hK
          refine wpAnyH_ready (rs := [6]) (by kernel_rfl) (by simp) ?_
          refine AllReadyH.cons (o := { dst := none, op := Go.Op.store 32 (Go.Operand.tmp 5) (Go.Operand.tmp 58), type := 0, pos := "order.go:203", after := #[{ on := 1, ground := Go.Ground.data }, { on := 5, ground := Go.Ground.chain }, { on := 0, ground := Go.Ground.phase }, { on := 1, ground := Go.Ground.phase }, { on := 2, ground := Go.Ground.textOnly Go.Departure.lateStores }, { on := 3, ground := Go.Ground.phase }, { on := 4, ground := Go.Ground.phase }, { on := 5, ground := Go.Ground.phase }], guard := none }) rfl (fun K hK => ?_) AllReadyH.nil
          rw [if_pos (by kernel_rfl)]
          refine wp_store_mid _ _ _ rfl (w.heap.size + 1) 0 (zz).toArray rfl rfl (show World.there _ _ _ (List.length zz) from hS3.b.there) iz oz ?_
          simp only [Act.put]
          refine hK.out _ _ (hS3.s1) (fun hS4 => ?_)
          clear hK
          refine wpAnyH_ready (rs := [7]) (by kernel_rfl) (by simp) ?_
          refine AllReadyH.cons (o := { dst := some 6, op := Go.Op.assign (Go.Operand.tmp 59), type := 3, pos := "order.go:203", after := #[{ on := 2, ground := Go.Ground.data }, { on := 6, ground := Go.Ground.chain }, { on := 0, ground := Go.Ground.phase }, { on := 1, ground := Go.Ground.phase }, { on := 2, ground := Go.Ground.phase }, { on := 3, ground := Go.Ground.phase }, { on := 4, ground := Go.Ground.phase }, { on := 5, ground := Go.Ground.phase }, { on := 6, ground := Go.Ground.phase }], guard := none }) rfl (fun K hK => ?_) AllReadyH.nil
          rw [if_pos (by kernel_rfl)]
          go_simp
          refine hK.out _ _ hS4 (fun hS5 => ?_)
          clear hK hS4
          refine wpAnyH_done (by kernel_rfl) ?_ _
          have HY := Hid.of hS5
          clear hS5
          go_wp2
          refine bodyPost_ret (result_t2c2t Tryz.results33 _ _ _ _ zz zz _ _ _ rfl rfl rfl rfl rfl HY.out.a.range Tryz.underlying32 rfl iz HY.out.b.range Tryz.underlying32 rfl iz) rfl ?_
          refine ⟨?_, HY.out.u⟩
          rw [HN.out, HZZ.out]
          rfl
      · have hq2 : ((xb ++ ⟨#[47, 103, 111, 46, 109, 111, 100]⟩).toList == xe.toList) = false := by
          rw [Go.Lib.toList_data, Go.Lib.toList_data, ba_app, beq_eq_false_iff_ne]
          exact fun h => h2 h.symm
        have HN := Hid.of (HP2.out.trans (if_pos (.inr h2)))
        clear h1 h2 HP2
        go_wp2
        go_quiet (fail)
        clear hq1 hq2 hsn hbs
        go_wp2
        refine wp_region_held_drew (S := fun w2 => Z3 w w2 zz) (by kernel_rfl) (HZ1.out.up (((Up.refl _).drewN _).drew)) (fun hS => ?_)
        refine wpAnyH_take (i := 0) (oi := { dst := some 46, op := Go.Op.load 32 (Go.Operand.tmp 7), type := 32, pos := "order.go:199", after := #[{ on := 3, ground := Go.Ground.gcOnly Go.Departure.lateStores }], guard := none }) (v := .agg (zz).toArray) rfl (by kernel_rfl) (by kernel_rfl) (by kernel_rfl) (fun _ _ _ h => h) (yieldsIf_load_mid (by kernel_rfl) _ _ rfl (w.heap.size + 1 + 1) 0 rfl (zz) _ (fun w5 hSw => hSw.c.range) Tryz.underlying32 rfl iz) hS ?_
        simp only [Act.put, List.setIfInBounds_toArray, List.set_cons_zero, List.set_cons_succ]
        refine wpAnyH_take (i := 1) (oi := { dst := some 47, op := Go.Op.load 32 (Go.Operand.tmp 7), type := 32, pos := "order.go:199", after := #[{ on := 4, ground := Go.Ground.gcOnly Go.Departure.lateStores }], guard := none }) (v := .agg (zz).toArray) rfl (by kernel_rfl) (by kernel_rfl) (by kernel_rfl) (fun _ _ _ h => h) (yieldsIf_load_mid (by kernel_rfl) _ _ rfl (w.heap.size + 1 + 1) 0 rfl (zz) _ (fun w5 hSw => hSw.c.range) Tryz.underlying32 rfl iz) hS ?_
        simp only [Act.put, List.setIfInBounds_toArray, List.set_cons_zero, List.set_cons_succ]
        refine wpAnyH_ready (rs := [2]) (by kernel_rfl) (by simp) ?_
        refine AllReadyH.cons (o := { dst := some 2, op := Go.Op.assign (Go.Operand.const (Go.Value.string { data := #[] })), type := 9, pos := "order.go:199", after := #[{ on := 0, ground := Go.Ground.textOnly Go.Departure.lateStores }, { on := 1, ground := Go.Ground.textOnly Go.Departure.lateStores }], guard := none }) rfl (fun K hK => ?_) AllReadyH.nil
        rw [if_pos (by kernel_rfl)]
        go_simp
        refine hK.out _ _ hS (fun hS1 => ?_)
        clear hK hS
        refine wpAnyH_ready (rs := [3]) (by kernel_rfl) (by simp) ?_
        refine AllReadyH.cons (o := { dst := some 3, op := Go.Op.assign (Go.Operand.const (Go.Value.string { data := #[] })), type := 9, pos := "order.go:199", after := #[{ on := 2, ground := Go.Ground.chain }, { on := 0, ground := Go.Ground.textOnly Go.Departure.lateStores }, { on := 1, ground := Go.Ground.textOnly Go.Departure.lateStores }, { on := 2, ground := Go.Ground.phase }], guard := none }) rfl (fun K hK => ?_) AllReadyH.nil
        rw [if_pos (by kernel_rfl)]
        go_simp
        refine hK.out _ _ hS1 (fun hS2 => ?_)
        clear hK hS1
        refine wpAnyH_ready (rs := [4]) (by kernel_rfl) (by simp) ?_
        refine AllReadyH.cons (o := { dst := none, op := Go.Op.store 32 (Go.Operand.tmp 4) (Go.Operand.tmp 46), type := 0, pos := "order.go:199", after := #[{ on := 0, ground := Go.Ground.data }, { on := 3, ground := Go.Ground.chain }, { on := 0, ground := Go.Ground.phase }, { on := 1, ground := Go.Ground.textOnly Go.Departure.lateStores }, { on := 2, ground := Go.Ground.phase }, { on := 3, ground := Go.Ground.phase }], guard := none }) rfl (fun K hK => ?_) AllReadyH.nil
        rw [if_pos (by kernel_rfl)]
        refine wp_store_mid _ _ _ rfl (w.heap.size) 0 (zz).toArray rfl rfl (show World.there _ _ _ (List.length zz) from hS2.a.there) iz oz ?_
        simp only [Act.put]
        refine hK.out _ _ (hS2.s0) (fun hS3 => ?_)
        clear hK
        refine wpAnyH_ready (rs := [5]) (by kernel_rfl) (by simp) ?_
        refine AllReadyH.cons (o := { dst := none, op := Go.Op.store 32 (Go.Operand.tmp 5) (Go.Operand.tmp 47), type := 0, pos := "order.go:199", after := #[{ on := 1, ground := Go.Ground.data }, { on := 4, ground := Go.Ground.chain }, { on := 0, ground := Go.Ground.phase }, { on := 1, ground := Go.Ground.phase }, { on := 2, ground := Go.Ground.phase }, { on := 3, ground := Go.Ground.phase }, { on := 4, ground := Go.Ground.phase }], guard := none }) rfl (fun K hK => ?_) AllReadyH.nil
        rw [if_pos (by kernel_rfl)]
        refine wp_store_mid _ _ _ rfl (w.heap.size + 1) 0 (zz).toArray rfl rfl (show World.there _ _ _ (List.length zz) from hS3.b.there) iz oz ?_
        simp only [Act.put]
        refine hK.out _ _ (hS3.s1) (fun hS4 => ?_)
        clear hK
        refine wpAnyH_ready (rs := [6]) (by kernel_rfl) (by simp) ?_
        refine AllReadyH.cons (o := { dst := some 6, op := Go.Op.assign (Go.Operand.const (Go.Value.int Go.IntKind.i64 115)), type := 3, pos := "order.go:199", after := #[{ on := 5, ground := Go.Ground.chain }, { on := 0, ground := Go.Ground.phase }, { on := 1, ground := Go.Ground.phase }, { on := 2, ground := Go.Ground.phase }, { on := 3, ground := Go.Ground.phase }, { on := 4, ground := Go.Ground.phase }, { on := 5, ground := Go.Ground.phase }], guard := none }) rfl (fun K hK => ?_) AllReadyH.nil
        rw [if_pos (by kernel_rfl)]
        go_simp
        refine hK.out _ _ hS4 (fun hS5 => ?_)
        clear hK hS4
        refine wpAnyH_done (by kernel_rfl) ?_ _
        have HY := Hid.of hS5
        clear hS5
        go_wp2
        refine bodyPost_ret (result_t2c2t Tryz.results33 _ _ _ _ zz zz _ _ _ rfl rfl rfl rfl rfl HY.out.a.range Tryz.underlying32 rfl iz HY.out.b.range Tryz.underlying32 rfl iz) rfl ?_
        refine ⟨?_, HY.out.u⟩
        rw [HN.out, HZZ.out]
        rfl
    · have hq1 : (xa.toList == xd.toList) = false := by
        rw [Go.Lib.toList_data, Go.Lib.toList_data, beq_eq_false_iff_ne]
        exact fun h => h1 h.symm
      have HN := Hid.of (HP2.out.trans (if_pos (.inl h1)))
      clear h1 HP2
      go_wp2
      go_quiet (fail)
      clear hq1 hsn hbs
      go_wp2
      refine wp_region_held_drew (S := fun w2 => Z3 w w2 zz) (by kernel_rfl) (HZ1.out.up (((Up.refl _).drewN _).drew)) (fun hS => ?_)
      refine wpAnyH_take (i := 0) (oi := { dst := some 46, op := Go.Op.load 32 (Go.Operand.tmp 7), type := 32, pos := "order.go:199", after := #[{ on := 3, ground := Go.Ground.gcOnly Go.Departure.lateStores }], guard := none }) (v := .agg (zz).toArray) rfl (by kernel_rfl) (by kernel_rfl) (by kernel_rfl) (fun _ _ _ h => h) (yieldsIf_load_mid (by kernel_rfl) _ _ rfl (w.heap.size + 1 + 1) 0 rfl (zz) _ (fun w5 hSw => hSw.c.range) Tryz.underlying32 rfl iz) hS ?_
      simp only [Act.put, List.setIfInBounds_toArray, List.set_cons_zero, List.set_cons_succ]
      refine wpAnyH_take (i := 1) (oi := { dst := some 47, op := Go.Op.load 32 (Go.Operand.tmp 7), type := 32, pos := "order.go:199", after := #[{ on := 4, ground := Go.Ground.gcOnly Go.Departure.lateStores }], guard := none }) (v := .agg (zz).toArray) rfl (by kernel_rfl) (by kernel_rfl) (by kernel_rfl) (fun _ _ _ h => h) (yieldsIf_load_mid (by kernel_rfl) _ _ rfl (w.heap.size + 1 + 1) 0 rfl (zz) _ (fun w5 hSw => hSw.c.range) Tryz.underlying32 rfl iz) hS ?_
      simp only [Act.put, List.setIfInBounds_toArray, List.set_cons_zero, List.set_cons_succ]
      refine wpAnyH_ready (rs := [2]) (by kernel_rfl) (by simp) ?_
      refine AllReadyH.cons (o := { dst := some 2, op := Go.Op.assign (Go.Operand.const (Go.Value.string { data := #[] })), type := 9, pos := "order.go:199", after := #[{ on := 0, ground := Go.Ground.textOnly Go.Departure.lateStores }, { on := 1, ground := Go.Ground.textOnly Go.Departure.lateStores }], guard := none }) rfl (fun K hK => ?_) AllReadyH.nil
      rw [if_pos (by kernel_rfl)]
      go_simp
      refine hK.out _ _ hS (fun hS1 => ?_)
      clear hK hS
      refine wpAnyH_ready (rs := [3]) (by kernel_rfl) (by simp) ?_
      refine AllReadyH.cons (o := { dst := some 3, op := Go.Op.assign (Go.Operand.const (Go.Value.string { data := #[] })), type := 9, pos := "order.go:199", after := #[{ on := 2, ground := Go.Ground.chain }, { on := 0, ground := Go.Ground.textOnly Go.Departure.lateStores }, { on := 1, ground := Go.Ground.textOnly Go.Departure.lateStores }, { on := 2, ground := Go.Ground.phase }], guard := none }) rfl (fun K hK => ?_) AllReadyH.nil
      rw [if_pos (by kernel_rfl)]
      go_simp
      refine hK.out _ _ hS1 (fun hS2 => ?_)
      clear hK hS1
      refine wpAnyH_ready (rs := [4]) (by kernel_rfl) (by simp) ?_
      refine AllReadyH.cons (o := { dst := none, op := Go.Op.store 32 (Go.Operand.tmp 4) (Go.Operand.tmp 46), type := 0, pos := "order.go:199", after := #[{ on := 0, ground := Go.Ground.data }, { on := 3, ground := Go.Ground.chain }, { on := 0, ground := Go.Ground.phase }, { on := 1, ground := Go.Ground.textOnly Go.Departure.lateStores }, { on := 2, ground := Go.Ground.phase }, { on := 3, ground := Go.Ground.phase }], guard := none }) rfl (fun K hK => ?_) AllReadyH.nil
      rw [if_pos (by kernel_rfl)]
      refine wp_store_mid _ _ _ rfl (w.heap.size) 0 (zz).toArray rfl rfl (show World.there _ _ _ (List.length zz) from hS2.a.there) iz oz ?_
      simp only [Act.put]
      refine hK.out _ _ (hS2.s0) (fun hS3 => ?_)
      clear hK
      refine wpAnyH_ready (rs := [5]) (by kernel_rfl) (by simp) ?_
      refine AllReadyH.cons (o := { dst := none, op := Go.Op.store 32 (Go.Operand.tmp 5) (Go.Operand.tmp 47), type := 0, pos := "order.go:199", after := #[{ on := 1, ground := Go.Ground.data }, { on := 4, ground := Go.Ground.chain }, { on := 0, ground := Go.Ground.phase }, { on := 1, ground := Go.Ground.phase }, { on := 2, ground := Go.Ground.phase }, { on := 3, ground := Go.Ground.phase }, { on := 4, ground := Go.Ground.phase }], guard := none }) rfl (fun K hK => ?_) AllReadyH.nil
      rw [if_pos (by kernel_rfl)]
      refine wp_store_mid _ _ _ rfl (w.heap.size + 1) 0 (zz).toArray rfl rfl (show World.there _ _ _ (List.length zz) from hS3.b.there) iz oz ?_
      simp only [Act.put]
      refine hK.out _ _ (hS3.s1) (fun hS4 => ?_)
      clear hK
      refine wpAnyH_ready (rs := [6]) (by kernel_rfl) (by simp) ?_
      refine AllReadyH.cons (o := { dst := some 6, op := Go.Op.assign (Go.Operand.const (Go.Value.int Go.IntKind.i64 115)), type := 3, pos := "order.go:199", after := #[{ on := 5, ground := Go.Ground.chain }, { on := 0, ground := Go.Ground.phase }, { on := 1, ground := Go.Ground.phase }, { on := 2, ground := Go.Ground.phase }, { on := 3, ground := Go.Ground.phase }, { on := 4, ground := Go.Ground.phase }, { on := 5, ground := Go.Ground.phase }], guard := none }) rfl (fun K hK => ?_) AllReadyH.nil
      rw [if_pos (by kernel_rfl)]
      go_simp
      refine hK.out _ _ hS4 (fun hS5 => ?_)
      clear hK hS4
      refine wpAnyH_done (by kernel_rfl) ?_ _
      have HY := Hid.of hS5
      clear hS5
      go_wp2
      refine bodyPost_ret (result_t2c2t Tryz.results33 _ _ _ _ zz zz _ _ _ rfl rfl rfl rfl rfl HY.out.a.range Tryz.underlying32 rfl iz HY.out.b.range Tryz.underlying32 rfl iz) rfl ?_
      refine ⟨?_, HY.out.u⟩
      rw [HN.out, HZZ.out]
      rfl
end Go.Proofs.YtnciglpdjpckiaaGreatDoor
namespace Go.Proofs.YtnciglpdjpckiaaGreatDoor
open Go.RowKit Go.Shelf TextNum ModNum
theorem wpList_load_want {P : Program} {ops : Array Oper} {rest : List Oper} {op : Oper} {a : Act} {w : World} {Q : Exit → Act → World → Prop} (hw : Region.wanted op (yielded ops a.tmps) = true) (ty : TypeId) (x : Operand) (ho : op.op = .load ty x)
    (b o : Nat) (hx : a.eval x = .pointer (some ⟨b, o, none⟩)) (cs : List Value) (d : TypeDesc) (hc : w.rangeAt b o cs)
    (hu : P.underlying ty = some d) (hd : d.isRow = true) (hi : (P.info? ty).map (·.size) = some cs.length)
    (h : wpList P ops Q rest (a.put op.dst (.agg cs.toArray)) w) : wpList P ops Q (op :: rest) a w :=
  Go.BigFrame.wpList_want hw fun _ hK => wp_load_mid ty x ho b o hx cs d hc hu hd hi (hK _ _ h)
theorem wpList_yield_want {P : Program} {ops : Array Oper} {rest : List Oper} {o : Oper} {a : Act} {w : World} {Q : Exit → Act → World → Prop} {v : Value} (hw : Region.wanted o (yielded ops a.tmps) = true)
    (hr : (execOp a.eval o).run P w = .ok (.value v) w) (h : wpList P ops Q rest (a.put o.dst v) w) : wpList P ops Q (o :: rest) a w :=
  Go.BigFrame.wpList_want hw fun _ hK => by
    unfold Oper.wp
    rw [hr]
    exact hK _ _ h
theorem equal32 (d : Nat) (r q : List UInt8) (hr : r.length = 32) (hq : q.length = 32) (w : World) : (Op.equalIn (d + 2) 32 (.agg (cb r).toArray) (.agg (cb q).toArray)).run Tryz.prog w = .ok (r == q) w :=
  run_equalIn_bytes w d 32 5 32 Tryz.underlying32 Tryz.underlying5 (fun w => Tryz.sizeOf5 w) r q hr hq
theorem exec_eql32 {op : Oper} {ρ : Operand → Value} {x y : Operand} {t : TypeId} (ho : op.op = .binOp .eql 32 x y t) (r q : List UInt8) (hx : ρ x = .agg (cb r).toArray) (hy : ρ y = .agg (cb q).toArray) (hr : r.length = 32) (hl : q.length = 32) (w : World) : (execOp ρ op).run Tryz.prog w = .ok (.value (.bool (r == q))) w := by
  have hq := equal32 9998 r q hr hl w
  unfold execOp
  simp only [ho, hx, hy, Sem.run_bind, run_eqGuard_agg (P := Tryz.prog) (w := w) .eql 32 x y _ _ Tryz.eqGuardType32, run_eql_struct, hq, Result.andThen_ok, Sem.run_pure]
set_option maxRecDepth 100000 in
set_option maxHeartbeats 2000000 in
theorem rec_k8 (s u : ByteArray) (a b : List UInt8) (l : Value) (ha : a.length = 32) (hb : b.length = 32) (hs : s.size ≤ 1048576) (w : World) (hG : GR w) (_hL : TabL w) (hT : TK w) : Calls Tryz.prog 13 #[.agg (opc 8 s u a b l).toArray] w fun e w' => e = .returned (.bool true) ∧ Up w w' := by
  have HO := Hid.of (opA_new w 8 s u a b l ha hb)
  have HU := Hid.of ((Up.refl w).alloc (.cells (opc 8 s u a b l).toArray 36))
  obtain ⟨q, hq1, hq2⟩ := ba_ex (pkP s.data.toList)
  obtain ⟨r, hr1, hr2⟩ := ba_ex (pkV s.data.toList)
  have HR := fun w' => fun (k : Up w w') => Hid.of (RParseKey_walk s hs w' (hT.up k))
  have HP := fun w' => fun (k : Up w w') => Hid.of (ParseKey_walk s (by omega) w' (hG.up k))
  rw [show vs (pkP s.data.toList) = .string q from congrArg Value.string hq2, show vs (pkV s.data.toList) = .string r from congrArg Value.string hr2] at HR HP
  have hqq := tl_eq q
  have hrr := tl_eq r
  generalize pkE s.data.toList = f at *
  clear hq1 hq2 hr1 hr2
  clear hG hT ha hb
  go_enter Tryz.func13, Tryz.ntmps13
  generalize hW0 : w.alloc (.cells (opc 8 s u a b l).toArray 36) = W0 at *
  have k0 := HO.out.c0
  have k1 := HO.out.c1
  generalize hg : w.heap.size = g at *
  go_wp2_with fail
  refine (HR _ HU.out).out.mono ?_
  rintro e w1 ⟨rfl, u1⟩
  have H1 := Hid.of (HU.out.trans u1)
  have j1 := u1.cell k1
  clear u1 k0 k1
  dsimp only
  go_wp2_with fail
  refine (HP _ H1.out).out.mono ?_
  rintro e w2 ⟨rfl, u2⟩
  have H2 := Hid.of (H1.out.trans u2)
  clear u2
  dsimp only
  go_wp2
  go_ret
  exact ⟨rfl, H2.out⟩
set_option maxRecDepth 100000 in
set_option maxHeartbeats 2000000 in
theorem rec_k12 (s u : ByteArray) (a b : List UInt8) (l : Value) (ha : a.length = 32) (hb : b.length = 32) (_hs : s.size ≤ 1048576) (w : World) (_hG : GR w) (hL : TabL w) (_hT : TK w) : Calls Tryz.prog 13 #[.agg (opc 12 s u a b l).toArray] w fun e w' => e = .returned (.bool true) ∧ Up w w' := by
  have HO := Hid.of (opA_new w 12 s u a b l ha hb)
  have HU := Hid.of ((Up.refl w).alloc (.cells (opc 12 s u a b l).toArray 36))
  have hlit := zlit
  obtain ⟨zz, hzz⟩ : ∃ zz, zz = cb Z32 := ⟨_, rfl⟩
  have lz : zz.length = 32 := by rw [hzz]; rfl
  rw [← hzz] at hlit
  have HLit := Hid.of hlit
  clear hzz hlit
  have hl1 := psm_len s.data.toList
  have HR := fun w' => Hid.of (RParseSum_walk s w')
  have HP := fun w' => fun (k : Up w w') => Hid.of (ParseSum_walk s w' (hL.below hL.lt k))
  generalize psm s.data.toList = r1 at *
  obtain ⟨t1, m1⟩ := r1
  dsimp only at hl1 HR HP
  have n1 : (cb t1).length = 32 := by rw [cb_length, hl1]
  have i1 := i32 hl1
  have o1 := cb_all t1
  clear hL ha hb
  go_enter Tryz.func13, Tryz.ntmps13
  generalize hW0 : w.alloc (.cells (opc 12 s u a b l).toArray 36) = W0 at *
  have k0 := HO.out.c0
  have k1 := HO.out.c1
  generalize hg : w.heap.size = g at *
  go_wp2_with fail
  refine (HR _).out.mono ?_
  rintro e w1 ⟨rfl, u1⟩
  have H1 := Hid.of (HU.out.trans u1)
  have j1 := u1.cell k1
  clear u1 k0 k1 HR
  dsimp only
  go_wp2_with (with_reducible show wpList _ _ _ ({ dst := _, op := Op.store 32 _ _, type := _, pos := _, after := _, guard := _ } :: _) _ _; refine Shut.out ?_)
  show wpList _ _ _ _ _ _
  rw [HLit.out]
  refine wpList_store_at rfl _ _ _ rfl w1.heap.size (at_new w1 32 zz) (cb t1) rfl rfl (by rw [n1, lz]) (by rw [List.size_toArray, n1]; kernel_rfl) o1 fun x2 hA2 hg2 => ?_
  have HA2 := Hid.of hA2
  have HU2 := Hid.of (((Up.refl w1).alloc (.cells zz.toArray 32)).by hg2 (fun g hg => by injection hg with hg; omega))
  have j2 := HU2.out.cell j1
  clear hA2 hg2 j1
  simp only [Act.put]
  go_wp2_with fail
  refine (HP _ (H1.out.trans HU2.out)).out.mono ?_
  rintro e w3 ⟨rfl, u3⟩
  have H3 := Hid.of ((H1.out.trans HU2.out).trans u3)
  have HA3 := Hid.of (HA2.out.up u3)
  clear u3 HP j2 HA2 HU2 H1
  dsimp only
  go_wp2_with (with_reducible show wpList _ _ _ ({ dst := _, op := Op.store 32 _ _, type := _, pos := _, after := _, guard := _ } :: _) _ _; refine Shut.out ?_)
  show wpList _ _ _ _ _ _
  rw [HLit.out]
  refine wpList_store_at rfl _ _ _ rfl w3.heap.size (at_new w3 32 zz) (cb t1) rfl rfl (by rw [n1, lz]) (by rw [List.size_toArray, n1]; kernel_rfl) o1 fun x4 hA4 hg4 => ?_
  have HA4 := Hid.of hA4
  have HB4 := Hid.of ((HA3.out.up ((Up.refl w3).alloc (.cells zz.toArray 32))).by hg4 (fun e => by injection e with e; have := lt_of_at HA3.out; omega))
  have HU4 := Hid.of ((H3.out.alloc (.cells zz.toArray 32)).by hg4 (fun g hg => by injection hg with hg; have := H3.out.size; omega))
  clear hA4 hg4 H3 HA3
  simp only [Act.put]
  go_wp2_with (with_reducible show wpList _ _ _ ({ dst := _, op := Op.load 32 _, type := _, pos := _, after := _, guard := _ } :: _) _ _; refine Shut.out ?_)
  show wpList _ _ _ _ _ _
  refine wpList_load_mid rfl _ _ rfl w3.heap.size 0 rfl (cb t1) _ HA4.out.range Tryz.underlying32 rfl i1 ?_
  simp only [Act.put, List.setIfInBounds_toArray, List.set_cons_zero, List.set_cons_succ]
  go_wp2_with (with_reducible show wpList _ _ _ ({ dst := _, op := Op.load 32 _, type := _, pos := _, after := _, guard := _ } :: _) _ _; refine Shut.out ?_)
  show wpList _ _ _ _ _ _
  refine wpList_load_mid rfl _ _ rfl w1.heap.size 0 rfl (cb t1) _ HB4.out.range Tryz.underlying32 rfl i1 ?_
  simp only [Act.put, List.setIfInBounds_toArray, List.set_cons_zero, List.set_cons_succ]
  go_wp2_with (with_reducible show wpList _ _ _ ({ dst := _, op := Op.binOp BinOp.eql 32 _ _ _, type := _, pos := _, after := _, guard := _ } :: _) _ _; refine Shut.out ?_)
  show wpList _ _ _ _ _ _
  refine wpList_plain rfl fun K hK => ?_
  unfold Oper.wp
  rw [exec_eql32 rfl t1 t1 rfl rfl hl1 hl1, beq_self_eq_true]
  refine hK _ _ ?_
  simp only [Act.put, List.setIfInBounds_toArray, List.set_cons_zero, List.set_cons_succ]
  go_wp2
  go_ret
  exact ⟨rfl, HU4.out⟩
theorem two_at (w : World) (zz : List Value) : At ((w.alloc (.cells zz.toArray 32)).alloc (.cells zz.toArray 32)) w.heap.size 32 zz ∧ At ((w.alloc (.cells zz.toArray 32)).alloc (.cells zz.toArray 32)) (w.heap.size + 1) 32 zz ∧ Up w ((w.alloc (.cells zz.toArray 32)).alloc (.cells zz.toArray 32)) := by
  refine ⟨At.up (at_new w 32 zz) ((Up.refl _).alloc _), ?_, ((Up.refl w).alloc _).alloc _⟩
  have := at_new (w.alloc (.cells zz.toArray 32)) 32 zz
  rwa [alloc_size] at this
theorem prc_lens (l : List UInt8) : (prc l).a.length = 32 ∧ (prc l).b.length = 32 := by
  have hz : Z32.length = 32 := rfl
  unfold prc
  split
  · exact ⟨hz, hz⟩
  · rename_i x y _
    split
    · exact ⟨hz, hz⟩
    · split
      · exact ⟨hz, hz⟩
      · exact rdw_len x.1 x.2.1 x.2.2 y.2.2
set_option maxRecDepth 100000 in
set_option maxHeartbeats 2000000 in
theorem rec_k14 (s u : ByteArray) (a b : List UInt8) (l : Value) (ha : a.length = 32) (hb : b.length = 32) (_hs : s.size ≤ 1048576) (w : World) (hG : GR w) (hL : TabL w) (hT : TK w) : Calls Tryz.prog 13 #[.agg (opc 14 s u a b l).toArray] w fun e w' => e = .returned (.bool true) ∧ Up w w' := by
  have HO := Hid.of (opA_new w 14 s u a b l ha hb)
  have HU := Hid.of ((Up.refl w).alloc (.cells (opc 14 s u a b l).toArray 36))
  have hlit := zlit
  obtain ⟨zz, hzz⟩ : ∃ zz, zz = cb Z32 := ⟨_, rfl⟩
  have lz : zz.length = 32 := by rw [hzz]; rfl
  rw [← hzz] at hlit
  have HLit := Hid.of hlit
  clear hzz hlit
  have hl := prc_lens s.data.toList
  have HR := fun w' => fun (k : Up w w') => Hid.of (RParseRecord_walk s w' (hT.up k))
  have HP := fun w' => fun (k : Up w w') => Hid.of (ParseRecord_walk s w' (hG.up k) (hL.below hL.lt k))
  generalize prc s.data.toList = r1 at *
  obtain ⟨p1, v1, ta, tb, m1⟩ := r1
  dsimp only [prcV] at hl HR HP
  obtain ⟨hla, hlb⟩ := hl
  have na : (cb ta).length = 32 := by rw [cb_length, hla]
  have nb : (cb tb).length = 32 := by rw [cb_length, hlb]
  have ia := i32 hla
  have ib := i32 hlb
  have oa := cb_all ta
  have ob := cb_all tb
  obtain ⟨q, hq1, hq2⟩ := ba_ex p1
  obtain ⟨r, hr1, hr2⟩ := ba_ex v1
  rw [show vs p1 = .string q from congrArg Value.string hq2, show vs v1 = .string r from congrArg Value.string hr2] at HR HP
  have hqq := tl_eq q
  have hrr := tl_eq r
  clear hq1 hq2 hr1 hr2
  clear hG hT hL ha hb
  go_enter Tryz.func13, Tryz.ntmps13
  generalize hW0 : w.alloc (.cells (opc 14 s u a b l).toArray 36) = W0 at *
  have k0 := HO.out.c0
  have k1 := HO.out.c1
  generalize hg : w.heap.size = g at *
  go_wp2_with fail
  refine (HR _ HU.out).out.mono ?_
  rintro e w1 ⟨rfl, u1⟩
  have H1 := Hid.of (HU.out.trans u1)
  have j1 := u1.cell k1
  clear u1 k0 k1 HR
  dsimp only
  go_wp2_with (with_reducible show wpList _ _ _ ({ dst := _, op := Op.store 32 _ _, type := _, pos := _, after := _, guard := _ } :: _) _ _; refine Shut.out ?_)
  show wpList _ _ _ _ _ _
  rw [HLit.out]
  have hT1 := two_at w1 zz
  generalize (w1.alloc (.cells zz.toArray 32)).alloc (.cells zz.toArray 32) = V1 at *
  refine wpList_store_at rfl _ _ _ rfl w1.heap.size hT1.1 (cb ta) rfl rfl (by rw [na, lz]) (by rw [List.size_toArray, na]; kernel_rfl) oa fun x2 hA hgA => ?_
  have HA1 := Hid.of hA
  have HB1 := Hid.of (hT1.2.1.by hgA (fun e => by injection e with e; omega))
  have HV1 := Hid.of (hT1.2.2.by hgA (fun g hg => by injection hg with hg; omega))
  clear hA hgA hT1
  simp only [Act.put]
  go_wp2_with (with_reducible show wpList _ _ _ ({ dst := _, op := Op.store 32 _ _, type := _, pos := _, after := _, guard := _ } :: _) _ _; refine Shut.out ?_)
  show wpList _ _ _ _ _ _
  refine wpList_store_at rfl _ _ _ rfl (w1.heap.size + 1) HB1.out (cb tb) rfl rfl (by rw [nb, lz]) (by rw [List.size_toArray, nb]; kernel_rfl) ob fun x3 hB hgB => ?_
  have HP1 := Hid.of hB
  have HQ1 := Hid.of (HA1.out.by hgB (fun e => by injection e with e; omega))
  have HW1 := Hid.of (HV1.out.by hgB (fun g hg => by injection hg with hg; omega))
  clear hB hgB HA1 HB1 HV1
  simp only [Act.put]
  have j3 := HW1.out.cell j1
  clear j1
  go_wp2_with fail
  refine (HP _ (H1.out.trans HW1.out)).out.mono ?_
  rintro e w4 ⟨rfl, u4⟩
  have H4 := Hid.of ((H1.out.trans HW1.out).trans u4)
  have HX4 := Hid.of (HP1.out.up u4)
  have HY4 := Hid.of (HQ1.out.up u4)
  clear u4 HP j3 HP1 HQ1 HW1 H1
  dsimp only
  go_wp2_with (with_reducible show wpList _ _ _ ({ dst := _, op := Op.store 32 _ _, type := _, pos := _, after := _, guard := _ } :: _) _ _; refine Shut.out ?_)
  show wpList _ _ _ _ _ _
  rw [HLit.out]
  have hT2 := two_at w4 zz
  generalize (w4.alloc (.cells zz.toArray 32)).alloc (.cells zz.toArray 32) = V2 at *
  refine wpList_store_at rfl _ _ _ rfl w4.heap.size hT2.1 (cb ta) rfl rfl (by rw [na, lz]) (by rw [List.size_toArray, na]; kernel_rfl) oa fun x5 hA hgA => ?_
  have HA2 := Hid.of hA
  have HB2 := Hid.of (hT2.2.1.by hgA (fun e => by injection e with e; omega))
  have HV2 := Hid.of (hT2.2.2.by hgA (fun g hg => by injection hg with hg; omega))
  clear hA hgA hT2
  simp only [Act.put]
  go_wp2_with (with_reducible show wpList _ _ _ ({ dst := _, op := Op.store 32 _ _, type := _, pos := _, after := _, guard := _ } :: _) _ _; refine Shut.out ?_)
  show wpList _ _ _ _ _ _
  refine wpList_store_at rfl _ _ _ rfl (w4.heap.size + 1) HB2.out (cb tb) rfl rfl (by rw [nb, lz]) (by rw [List.size_toArray, nb]; kernel_rfl) ob fun x6 hB hgB => ?_
  have HP2 := Hid.of hB
  have HQ2 := Hid.of (HA2.out.by hgB (fun e => by injection e with e; omega))
  have HW2 := Hid.of (HV2.out.by hgB (fun g hg => by injection hg with hg; omega))
  clear hB hgB HA2 HB2 HV2
  simp only [Act.put]
  have HX6 := Hid.of (HX4.out.up HW2.out)
  have HY6 := Hid.of (HY4.out.up HW2.out)
  have HU6 := Hid.of (H4.out.trans HW2.out)
  clear HX4 HY4 H4 HW2
  go_wp2_with (with_reducible show wpList _ _ _ ({ dst := _, op := Op.load 32 _, type := _, pos := _, after := _, guard := _ } :: _) _ _; refine Shut.out ?_)
  show wpList _ _ _ _ _ _
  refine wpList_load_want (by kernel_rfl) _ _ rfl (w4.heap.size) 0 rfl (cb ta) _ HQ2.out.range Tryz.underlying32 rfl ia ?_
  simp only [Act.put, List.setIfInBounds_toArray, List.set_cons_zero, List.set_cons_succ]
  go_wp2_with (with_reducible show wpList _ _ _ ({ dst := _, op := Op.load 32 _, type := _, pos := _, after := _, guard := _ } :: _) _ _; refine Shut.out ?_)
  show wpList _ _ _ _ _ _
  refine wpList_load_want (by kernel_rfl) _ _ rfl (w1.heap.size) 0 rfl (cb ta) _ HY6.out.range Tryz.underlying32 rfl ia ?_
  simp only [Act.put, List.setIfInBounds_toArray, List.set_cons_zero, List.set_cons_succ]
  go_wp2_with (with_reducible show wpList _ _ _ ({ dst := _, op := Op.binOp BinOp.eql 32 _ _ _, type := _, pos := _, after := _, guard := _ } :: _) _ _; refine Shut.out ?_)
  show wpList _ _ _ _ _ _
  refine wpList_yield_want (by kernel_rfl) (exec_eql32 rfl ta ta rfl rfl hla hla _) ?_
  rw [beq_self_eq_true]
  simp only [Act.put, List.setIfInBounds_toArray, List.set_cons_zero, List.set_cons_succ]
  go_wp2_with (with_reducible show wpList _ _ _ ({ dst := _, op := Op.load 32 _, type := _, pos := _, after := _, guard := _ } :: _) _ _; refine Shut.out ?_)
  show wpList _ _ _ _ _ _
  refine wpList_load_want (by kernel_rfl) _ _ rfl (w4.heap.size + 1) 0 rfl (cb tb) _ HP2.out.range Tryz.underlying32 rfl ib ?_
  simp only [Act.put, List.setIfInBounds_toArray, List.set_cons_zero, List.set_cons_succ]
  go_wp2_with (with_reducible show wpList _ _ _ ({ dst := _, op := Op.load 32 _, type := _, pos := _, after := _, guard := _ } :: _) _ _; refine Shut.out ?_)
  show wpList _ _ _ _ _ _
  refine wpList_load_want (by kernel_rfl) _ _ rfl (w1.heap.size + 1) 0 rfl (cb tb) _ HX6.out.range Tryz.underlying32 rfl ib ?_
  simp only [Act.put, List.setIfInBounds_toArray, List.set_cons_zero, List.set_cons_succ]
  go_wp2_with (with_reducible show wpList _ _ _ ({ dst := _, op := Op.binOp BinOp.eql 32 _ _ _, type := _, pos := _, after := _, guard := _ } :: _) _ _; refine Shut.out ?_)
  show wpList _ _ _ _ _ _
  refine wpList_yield_want (by kernel_rfl) (exec_eql32 rfl tb tb rfl rfl hlb hlb _) ?_
  rw [beq_self_eq_true]
  simp only [Act.put, List.setIfInBounds_toArray, List.set_cons_zero, List.set_cons_succ]
  go_wp2
  go_ret
  exact ⟨rfl, HU6.out⟩
end Go.Proofs.YtnciglpdjpckiaaGreatDoor
namespace Go.Proofs.YtnciglpdjpckiaaGreatDoor
open Go.RowKit Go.Shelf TextNum ModNum
theorem opc_len (k : Int) (s u : ByteArray) {a b : List UInt8} (l : Value) (ha : a.length = 32) (hb : b.length = 32) : (opc k s u a b l).length = 68 := by
  unfold opc
  simp only [List.length_cons, List.length_append, cb_length, ha, hb, List.length_nil]
set_option maxRecDepth 100000 in
theorem info68 : (Tryz.prog.info? 36).map (·.size) = some 68 := by kernel_rfl
set_option maxRecDepth 100000 in
set_option maxHeartbeats 2000000 in
theorem esc_k3 (s u : ByteArray) (a b : List UInt8) (l : Value) (ha : a.length = 32) (hb : b.length = 32) (hs : s.size ≤ 1048576) (w : World) (hG : GR w) (hT : TK w) : Calls Tryz.prog 40 #[.agg (opc 3 s u a b l).toArray] w fun e w' => e = .returned (.bool true) ∧ Up w w' := by
  have HO := Hid.of (opA_new w 3 s u a b l ha hb)
  have HU := Hid.of ((Up.refl w).alloc (.cells (opc 3 s u a b l).toArray 36))
  obtain ⟨q, hq1, hq2⟩ := ba_ex (epT s.data.toList)
  have HR := fun w' => fun (_k : Up w w') => Hid.of (REscapePath_walk s w' (hT.up _k))
  have HP := fun w' => fun (k : Up w w') => Hid.of (EscapePath_walk s w' (hG.up k))
  rw [show vs (epT s.data.toList) = .string q from congrArg Value.string hq2] at HR HP
  have hqq := tl_eq q
  have hss := hs
  have hTT := hT
  generalize majE s.data.toList = f at *
  clear hG hT hq1 hq2 ha hb hss hTT
  go_enter Tryz.func40, Tryz.ntmps40
  generalize hW0 : w.alloc (.cells (opc 3 s u a b l).toArray 36) = W0 at *
  have k0 := HO.out.c0
  have k1 := HO.out.c1
  generalize hg : w.heap.size = g at *
  go_wp2_with fail
  refine (HR _ HU.out).out.mono ?_
  rintro e w1 ⟨rfl, u1⟩
  have H1 := Hid.of (HU.out.trans u1)
  have j1 := u1.cell k1
  clear u1 k0 k1
  dsimp only
  go_wp2_with fail
  refine (HP _ H1.out).out.mono ?_
  rintro e w2 ⟨rfl, u2⟩
  have H2 := Hid.of (H1.out.trans u2)
  clear u2
  dsimp only
  go_wp2
  go_ret
  exact ⟨rfl, H2.out⟩
set_option maxRecDepth 100000 in
set_option maxHeartbeats 2000000 in
theorem esc_k4 (s u : ByteArray) (a b : List UInt8) (l : Value) (ha : a.length = 32) (hb : b.length = 32) (hs : s.size ≤ 1048576) (w : World) (hG : GR w) (hT : TK w) : Calls Tryz.prog 40 #[.agg (opc 4 s u a b l).toArray] w fun e w' => e = .returned (.bool true) ∧ Up w w' := by
  have HO := Hid.of (opA_new w 4 s u a b l ha hb)
  have HU := Hid.of ((Up.refl w).alloc (.cells (opc 4 s u a b l).toArray 36))
  obtain ⟨q, hq1, hq2⟩ := ba_ex (upT s.data.toList)
  have HR := fun w' => fun (_k : Up w w') => Hid.of (RUnescapePath_walk s hs w' (hT.up _k))
  have HP := fun w' => fun (k : Up w w') => Hid.of (UnescapePath_walk s (by omega) w' (hG.up k))
  rw [show vs (upT s.data.toList) = .string q from congrArg Value.string hq2] at HR HP
  have hqq := tl_eq q
  have hss := hs
  have hTT := hT
  generalize upE s.data.toList = f at *
  clear hG hT hq1 hq2 ha hb hss hTT
  go_enter Tryz.func40, Tryz.ntmps40
  generalize hW0 : w.alloc (.cells (opc 4 s u a b l).toArray 36) = W0 at *
  have k0 := HO.out.c0
  have k1 := HO.out.c1
  generalize hg : w.heap.size = g at *
  go_wp2_with fail
  refine (HR _ HU.out).out.mono ?_
  rintro e w1 ⟨rfl, u1⟩
  have H1 := Hid.of (HU.out.trans u1)
  have j1 := u1.cell k1
  clear u1 k0 k1
  dsimp only
  go_wp2_with fail
  refine (HP _ H1.out).out.mono ?_
  rintro e w2 ⟨rfl, u2⟩
  have H2 := Hid.of (H1.out.trans u2)
  clear u2
  dsimp only
  go_wp2
  go_ret
  exact ⟨rfl, H2.out⟩
set_option maxRecDepth 100000 in
set_option maxHeartbeats 2000000 in
theorem esc_k5 (s u : ByteArray) (a b : List UInt8) (l : Value) (ha : a.length = 32) (hb : b.length = 32) (hs : s.size ≤ 1048576) (w : World) (hG : GR w) (hT : TK w) : Calls Tryz.prog 40 #[.agg (opc 5 s u a b l).toArray] w fun e w' => e = .returned (.bool true) ∧ Up w w' := by
  have HO := Hid.of (opA_new w 5 s u a b l ha hb)
  have HU := Hid.of ((Up.refl w).alloc (.cells (opc 5 s u a b l).toArray 36))
  obtain ⟨q, hq1, hq2⟩ := ba_ex (evT s.data.toList)
  have HR := fun w' => fun (_k : Up w w') => Hid.of (REscapeVersion_walk s w')
  have HP := fun w' => fun (k : Up w w') => Hid.of (EscapeVersion_walk s w' (hG.up k).toGM)
  rw [show vs (evT s.data.toList) = .string q from congrArg Value.string hq2] at HR HP
  have hqq := tl_eq q
  have hss := hs
  have hTT := hT
  generalize verE s.data.toList = f at *
  clear hG hT hq1 hq2 ha hb hss hTT
  go_enter Tryz.func40, Tryz.ntmps40
  generalize hW0 : w.alloc (.cells (opc 5 s u a b l).toArray 36) = W0 at *
  have k0 := HO.out.c0
  have k1 := HO.out.c1
  generalize hg : w.heap.size = g at *
  go_wp2_with fail
  refine (HR _ HU.out).out.mono ?_
  rintro e w1 ⟨rfl, u1⟩
  have H1 := Hid.of (HU.out.trans u1)
  have j1 := u1.cell k1
  clear u1 k0 k1
  dsimp only
  go_wp2_with fail
  refine (HP _ H1.out).out.mono ?_
  rintro e w2 ⟨rfl, u2⟩
  have H2 := Hid.of (H1.out.trans u2)
  clear u2
  dsimp only
  go_wp2
  go_ret
  exact ⟨rfl, H2.out⟩
set_option maxRecDepth 100000 in
set_option maxHeartbeats 2000000 in
theorem esc_k6 (s u : ByteArray) (a b : List UInt8) (l : Value) (ha : a.length = 32) (hb : b.length = 32) (hs : s.size ≤ 1048576) (w : World) (hG : GR w) (hT : TK w) : Calls Tryz.prog 40 #[.agg (opc 6 s u a b l).toArray] w fun e w' => e = .returned (.bool true) ∧ Up w w' := by
  have HO := Hid.of (opA_new w 6 s u a b l ha hb)
  have HU := Hid.of ((Up.refl w).alloc (.cells (opc 6 s u a b l).toArray 36))
  obtain ⟨q, hq1, hq2⟩ := ba_ex (uvT s.data.toList)
  have HR := fun w' => fun (_k : Up w w') => Hid.of (RUnescapeVersion_walk s hs w')
  have HP := fun w' => fun (k : Up w w') => Hid.of (UnescapeVersion_walk s (by omega) w' (hG.up k).toGM)
  rw [show vs (uvT s.data.toList) = .string q from congrArg Value.string hq2] at HR HP
  have hqq := tl_eq q
  have hss := hs
  have hTT := hT
  generalize uvE s.data.toList = f at *
  clear hG hT hq1 hq2 ha hb hss hTT
  go_enter Tryz.func40, Tryz.ntmps40
  generalize hW0 : w.alloc (.cells (opc 6 s u a b l).toArray 36) = W0 at *
  have k0 := HO.out.c0
  have k1 := HO.out.c1
  generalize hg : w.heap.size = g at *
  go_wp2_with fail
  refine (HR _ HU.out).out.mono ?_
  rintro e w1 ⟨rfl, u1⟩
  have H1 := Hid.of (HU.out.trans u1)
  have j1 := u1.cell k1
  clear u1 k0 k1
  dsimp only
  go_wp2_with fail
  refine (HP _ H1.out).out.mono ?_
  rintro e w2 ⟨rfl, u2⟩
  have H2 := Hid.of (H1.out.trans u2)
  clear u2
  dsimp only
  go_wp2
  go_ret
  exact ⟨rfl, H2.out⟩
set_option maxRecDepth 100000 in
set_option maxHeartbeats 2000000 in
theorem plays_k1 (s u : ByteArray) (a b : List UInt8) (l : Value) (ha : a.length = 32) (hb : b.length = 32) (hs : s.size ≤ 1048576) (w : World) (hG : GR w) (hL : TabL w) (hT : TK w) : Calls Tryz.prog 18 #[.agg (opc 1 s u a b l).toArray] w fun e w' => e = .returned (.bool true) ∧ Up w w' := by
  have HO := Hid.of (opA_new w 1 s u a b l ha hb)
  have HU := Hid.of ((Up.refl w).alloc (.cells (opc 1 s u a b l).toArray 36))
  have HP := fun w' => fun (k : Up w w') => Hid.of (CheckPath_walk s w' (hG.up k))
  have HR := fun w' => fun (_k : Up w w') => Hid.of (RCheckPath_walk s w' (hT.up _k))
  have hxx := And.intro hs (And.intro hL hT)
  generalize majE s.data.toList = f at *
  clear hG hT hL ha hb hxx hs
  go_enter Tryz.func18, Tryz.ntmps18
  generalize hW0 : w.alloc (.cells (opc 1 s u a b l).toArray 36) = W0 at *
  have k0 := HO.out.c0
  have k1 := HO.out.c1
  generalize hg : w.heap.size = g at *
  go_wp2
  refine wp_region_held_drew (S := fun w2 => Up W0 w2) (by kernel_rfl) ((Up.refl W0).drew) (fun hS => ?_)
  refine wpAnyH_take (i := 0) (oi := { dst := some 11, op := Go.Op.fieldAddr 36 (Go.Operand.tmp 1) 1, type := 0, pos := "law.go:120", after := #[], guard := none }) (v := .pointer (some ⟨g, 1, none⟩)) rfl (by kernel_rfl) (by kernel_rfl) (by kernel_rfl) (fun _ _ _ h => h) (Or.inl ⟨by kernel_rfl, ?_⟩) hS ?_
  · intro w5 hSw
    go_simp
  simp only [Act.put, List.setIfInBounds_toArray, List.set_cons_zero, List.set_cons_succ]
  refine wpAnyH_take (i := 1) (oi := { dst := some 12, op := Go.Op.load 9 (Go.Operand.tmp 11), type := 9, pos := "law.go:120", after := #[{ on := 0, ground := Go.Ground.data }], guard := none }) (v := .string s) rfl (by kernel_rfl) (by kernel_rfl) (by kernel_rfl) (fun _ _ _ h => h) (Or.inl ⟨by kernel_rfl, ?_⟩) hS ?_
  · intro w5 hSw
    have hq := hSw.cell k1
    go_simp
  simp only [Act.put, List.setIfInBounds_toArray, List.set_cons_zero, List.set_cons_succ]
  refine wpAnyH_take (i := 3) (oi := { dst := some 14, op := Go.Op.fieldAddr 36 (Go.Operand.tmp 1) 1, type := 0, pos := "law.go:120", after := #[], guard := none }) (v := .pointer (some ⟨g, 1, none⟩)) rfl (by kernel_rfl) (by kernel_rfl) (by kernel_rfl) (fun _ _ _ h => h) (Or.inl ⟨by kernel_rfl, ?_⟩) hS ?_
  · intro w5 hSw
    go_simp
  simp only [Act.put, List.setIfInBounds_toArray, List.set_cons_zero, List.set_cons_succ]
  refine wpAnyH_take (i := 4) (oi := { dst := some 15, op := Go.Op.load 9 (Go.Operand.tmp 14), type := 9, pos := "law.go:120", after := #[{ on := 3, ground := Go.Ground.data }], guard := none }) (v := .string s) rfl (by kernel_rfl) (by kernel_rfl) (by kernel_rfl) (fun _ _ _ h => h) (Or.inl ⟨by kernel_rfl, ?_⟩) hS ?_
  · intro w5 hSw
    have hq := hSw.cell k1
    go_simp
  simp only [Act.put, List.setIfInBounds_toArray, List.set_cons_zero, List.set_cons_succ]
  refine wpAnyH_ready (rs := [2]) (by kernel_rfl) (by simp) ?_
  refine AllReadyH.cons (o := { dst := some 13, op := Go.Op.call { callee := Go.Callee.value (Go.Operand.func 36), args := #[Go.Operand.tmp 12], argTypes := #[9] }, type := 23, pos := "law.go:120", after := #[{ on := 1, ground := Go.Ground.data }], guard := none }) rfl (fun K hK => ?_) AllReadyH.nil
  rw [if_pos (by kernel_rfl)]
  go_simp
  refine (HP _ (HU.out.trans hS)).out.mono ?_
  rintro e v1 ⟨rfl, u1⟩
  dsimp only
  refine hK.out _ _ (hS.trans u1) (fun hS1 => ?_)
  clear hK hS
  refine wpAnyH_ready (rs := [5]) (by kernel_rfl) (by simp) ?_
  refine AllReadyH.cons (o := { dst := some 16, op := Go.Op.call { callee := Go.Callee.value (Go.Operand.func 37), args := #[Go.Operand.tmp 15], argTypes := #[9] }, type := 3, pos := "law.go:120", after := #[{ on := 4, ground := Go.Ground.data }, { on := 2, ground := Go.Ground.chain }], guard := none }) rfl (fun K hK => ?_) AllReadyH.nil
  rw [if_pos (by kernel_rfl)]
  go_simp
  refine (HR _ (HU.out.trans hS1)).out.mono ?_
  rintro e v2 ⟨rfl, u2⟩
  dsimp only
  refine hK.out _ _ (hS1.trans u2) (fun hS2 => ?_)
  clear hK hS1
  refine wpAnyH_take (i := 6) (oi := { dst := some 17, op := Go.Op.binOp Go.BinOp.eql 3 (Go.Operand.tmp 13) (Go.Operand.tmp 16) 3, type := 4, pos := "law.go:120", after := #[{ on := 2, ground := Go.Ground.data }, { on := 5, ground := Go.Ground.data }], guard := none }) (v := .bool true) rfl (by kernel_rfl) (by kernel_rfl) (by kernel_rfl) (fun _ _ _ h => h) (Or.inl ⟨by kernel_rfl, ?_⟩) hS2 ?_
  · intro w5 hSw
    go_simp
  simp only [Act.put, List.setIfInBounds_toArray, List.set_cons_zero, List.set_cons_succ]
  refine wpAnyH_ready (rs := [7]) (by kernel_rfl) (by simp) ?_
  refine AllReadyH.cons (o := { dst := some 2, op := Go.Op.assign (Go.Operand.tmp 17), type := 4, pos := "law.go:120", after := #[{ on := 6, ground := Go.Ground.data }, { on := 5, ground := Go.Ground.chain }, { on := 0, ground := Go.Ground.phase }, { on := 1, ground := Go.Ground.phase }, { on := 2, ground := Go.Ground.phase }, { on := 3, ground := Go.Ground.phase }, { on := 4, ground := Go.Ground.phase }, { on := 5, ground := Go.Ground.phase }, { on := 6, ground := Go.Ground.phase }], guard := none }) rfl (fun K hK => ?_) AllReadyH.nil
  rw [if_pos (by kernel_rfl)]
  go_simp
  refine hK.out _ _ hS2 (fun hS3 => ?_)
  clear hK hS2
  refine wpAnyH_done (by kernel_rfl) ?_ _
  have HY := Hid.of hS3
  clear hS3
  go_wp2
  go_ret
  exact ⟨rfl, HU.out.trans HY.out⟩
set_option maxRecDepth 100000 in
set_option maxHeartbeats 2000000 in
theorem plays_k2 (s u : ByteArray) (a b : List UInt8) (l : Value) (ha : a.length = 32) (hb : b.length = 32) (hs : s.size ≤ 1048576) (w : World) (hG : GR w) (hL : TabL w) (hT : TK w) : Calls Tryz.prog 18 #[.agg (opc 2 s u a b l).toArray] w fun e w' => e = .returned (.bool true) ∧ Up w w' := by
  have HO := Hid.of (opA_new w 2 s u a b l ha hb)
  have HU := Hid.of ((Up.refl w).alloc (.cells (opc 2 s u a b l).toArray 36))
  have HP := fun w' => fun (k : Up w w') => Hid.of (CheckVersion_walk s w' (hG.up k).toGM)
  have HR := fun w' => fun (_k : Up w w') => Hid.of (RCheckVersion_walk s w')
  have hxx := And.intro hs (And.intro hL hT)
  generalize verE s.data.toList = f at *
  clear hG hT hL ha hb hxx hs
  go_enter Tryz.func18, Tryz.ntmps18
  generalize hW0 : w.alloc (.cells (opc 2 s u a b l).toArray 36) = W0 at *
  have k0 := HO.out.c0
  have k1 := HO.out.c1
  generalize hg : w.heap.size = g at *
  go_wp2
  refine wp_region_held_drew (S := fun w2 => Up W0 w2) (by kernel_rfl) ((Up.refl W0).drew) (fun hS => ?_)
  refine wpAnyH_take (i := 0) (oi := { dst := some 20, op := Go.Op.fieldAddr 36 (Go.Operand.tmp 1) 1, type := 0, pos := "law.go:122", after := #[], guard := none }) (v := .pointer (some ⟨g, 1, none⟩)) rfl (by kernel_rfl) (by kernel_rfl) (by kernel_rfl) (fun _ _ _ h => h) (Or.inl ⟨by kernel_rfl, ?_⟩) hS ?_
  · intro w5 hSw
    go_simp
  simp only [Act.put, List.setIfInBounds_toArray, List.set_cons_zero, List.set_cons_succ]
  refine wpAnyH_take (i := 1) (oi := { dst := some 21, op := Go.Op.load 9 (Go.Operand.tmp 20), type := 9, pos := "law.go:122", after := #[{ on := 0, ground := Go.Ground.data }], guard := none }) (v := .string s) rfl (by kernel_rfl) (by kernel_rfl) (by kernel_rfl) (fun _ _ _ h => h) (Or.inl ⟨by kernel_rfl, ?_⟩) hS ?_
  · intro w5 hSw
    have hq := hSw.cell k1
    go_simp
  simp only [Act.put, List.setIfInBounds_toArray, List.set_cons_zero, List.set_cons_succ]
  refine wpAnyH_take (i := 3) (oi := { dst := some 23, op := Go.Op.fieldAddr 36 (Go.Operand.tmp 1) 1, type := 0, pos := "law.go:122", after := #[], guard := none }) (v := .pointer (some ⟨g, 1, none⟩)) rfl (by kernel_rfl) (by kernel_rfl) (by kernel_rfl) (fun _ _ _ h => h) (Or.inl ⟨by kernel_rfl, ?_⟩) hS ?_
  · intro w5 hSw
    go_simp
  simp only [Act.put, List.setIfInBounds_toArray, List.set_cons_zero, List.set_cons_succ]
  refine wpAnyH_take (i := 4) (oi := { dst := some 24, op := Go.Op.load 9 (Go.Operand.tmp 23), type := 9, pos := "law.go:122", after := #[{ on := 3, ground := Go.Ground.data }], guard := none }) (v := .string s) rfl (by kernel_rfl) (by kernel_rfl) (by kernel_rfl) (fun _ _ _ h => h) (Or.inl ⟨by kernel_rfl, ?_⟩) hS ?_
  · intro w5 hSw
    have hq := hSw.cell k1
    go_simp
  simp only [Act.put, List.setIfInBounds_toArray, List.set_cons_zero, List.set_cons_succ]
  refine wpAnyH_ready (rs := [2]) (by kernel_rfl) (by simp) ?_
  refine AllReadyH.cons (o := { dst := some 22, op := Go.Op.call { callee := Go.Callee.value (Go.Operand.func 38), args := #[Go.Operand.tmp 21], argTypes := #[9] }, type := 23, pos := "law.go:122", after := #[{ on := 1, ground := Go.Ground.data }], guard := none }) rfl (fun K hK => ?_) AllReadyH.nil
  rw [if_pos (by kernel_rfl)]
  go_simp
  refine (HP _ (HU.out.trans hS)).out.mono ?_
  rintro e v1 ⟨rfl, u1⟩
  dsimp only
  refine hK.out _ _ (hS.trans u1) (fun hS1 => ?_)
  clear hK hS
  refine wpAnyH_ready (rs := [5]) (by kernel_rfl) (by simp) ?_
  refine AllReadyH.cons (o := { dst := some 25, op := Go.Op.call { callee := Go.Callee.value (Go.Operand.func 39), args := #[Go.Operand.tmp 24], argTypes := #[9] }, type := 3, pos := "law.go:122", after := #[{ on := 4, ground := Go.Ground.data }, { on := 2, ground := Go.Ground.chain }], guard := none }) rfl (fun K hK => ?_) AllReadyH.nil
  rw [if_pos (by kernel_rfl)]
  go_simp
  refine (HR _ (HU.out.trans hS1)).out.mono ?_
  rintro e v2 ⟨rfl, u2⟩
  dsimp only
  refine hK.out _ _ (hS1.trans u2) (fun hS2 => ?_)
  clear hK hS1
  refine wpAnyH_take (i := 6) (oi := { dst := some 26, op := Go.Op.binOp Go.BinOp.eql 3 (Go.Operand.tmp 22) (Go.Operand.tmp 25) 3, type := 4, pos := "law.go:122", after := #[{ on := 2, ground := Go.Ground.data }, { on := 5, ground := Go.Ground.data }], guard := none }) (v := .bool true) rfl (by kernel_rfl) (by kernel_rfl) (by kernel_rfl) (fun _ _ _ h => h) (Or.inl ⟨by kernel_rfl, ?_⟩) hS2 ?_
  · intro w5 hSw
    go_simp
  simp only [Act.put, List.setIfInBounds_toArray, List.set_cons_zero, List.set_cons_succ]
  refine wpAnyH_ready (rs := [7]) (by kernel_rfl) (by simp) ?_
  refine AllReadyH.cons (o := { dst := some 2, op := Go.Op.assign (Go.Operand.tmp 26), type := 4, pos := "law.go:122", after := #[{ on := 6, ground := Go.Ground.data }, { on := 5, ground := Go.Ground.chain }, { on := 0, ground := Go.Ground.phase }, { on := 1, ground := Go.Ground.phase }, { on := 2, ground := Go.Ground.phase }, { on := 3, ground := Go.Ground.phase }, { on := 4, ground := Go.Ground.phase }, { on := 5, ground := Go.Ground.phase }, { on := 6, ground := Go.Ground.phase }], guard := none }) rfl (fun K hK => ?_) AllReadyH.nil
  rw [if_pos (by kernel_rfl)]
  go_simp
  refine hK.out _ _ hS2 (fun hS3 => ?_)
  clear hK hS2
  refine wpAnyH_done (by kernel_rfl) ?_ _
  have HY := Hid.of hS3
  clear hS3
  go_wp2
  go_ret
  exact ⟨rfl, HU.out.trans HY.out⟩
set_option maxRecDepth 100000 in
set_option maxHeartbeats 2000000 in
theorem plays_k3 (s u : ByteArray) (a b : List UInt8) (l : Value) (ha : a.length = 32) (hb : b.length = 32) (hs : s.size ≤ 1048576) (w : World) (hG : GR w) (hL : TabL w) (hT : TK w) : Calls Tryz.prog 18 #[.agg (opc 3 s u a b l).toArray] w fun e w' => e = .returned (.bool true) ∧ Up w w' := by
  have HA := Hid.of (at_new w 36 (opc 3 s u a b l))
  have HU := Hid.of ((Up.refl w).alloc (.cells (opc 3 s u a b l).toArray 36))
  have HC := fun w' => fun (k : Up w w') => Hid.of (esc_k3 s u a b l ha hb hs w' (hG.up k) (hT.up k))
  have HI := Hid.of (show (Tryz.prog.info? 36).map (·.size) = some (opc 3 s u a b l).length by rw [opc_len 3 s u l ha hb]; exact info68)
  have hxx := And.intro hs (And.intro hL (And.intro hT hG))
  clear hG hT hL ha hb hxx hs
  go_enter Tryz.func18, Tryz.ntmps18
  have k0 := HA.out.cell (i := 0) rfl
  generalize hW0 : w.alloc (.cells (opc 3 s u a b l).toArray 36) = W0 at *
  generalize hg : w.heap.size = g at *
  go_wp2_with (with_reducible show wpList _ _ _ ({ dst := _, op := Op.load 36 _, type := _, pos := _, after := _, guard := _ } :: _) _ _; refine Shut.out ?_)
  show wpList _ _ _ _ _ _
  refine wpList_load_mid rfl _ _ rfl g 0 rfl (opc 3 s u a b l) _ HA.out.range Tryz.underlying36 rfl HI.out ?_
  simp only [Act.put, List.setIfInBounds_toArray, List.set_cons_zero, List.set_cons_succ]
  go_wp2_with fail
  refine (HC _ HU.out).out.mono ?_
  rintro e w1 ⟨rfl, u1⟩
  have H1 := Hid.of (HU.out.trans u1)
  clear u1
  dsimp only
  go_wp2
  go_ret
  exact ⟨rfl, H1.out⟩
set_option maxRecDepth 100000 in
set_option maxHeartbeats 2000000 in
theorem plays_k4 (s u : ByteArray) (a b : List UInt8) (l : Value) (ha : a.length = 32) (hb : b.length = 32) (hs : s.size ≤ 1048576) (w : World) (hG : GR w) (hL : TabL w) (hT : TK w) : Calls Tryz.prog 18 #[.agg (opc 4 s u a b l).toArray] w fun e w' => e = .returned (.bool true) ∧ Up w w' := by
  have HA := Hid.of (at_new w 36 (opc 4 s u a b l))
  have HU := Hid.of ((Up.refl w).alloc (.cells (opc 4 s u a b l).toArray 36))
  have HC := fun w' => fun (k : Up w w') => Hid.of (esc_k4 s u a b l ha hb hs w' (hG.up k) (hT.up k))
  have HI := Hid.of (show (Tryz.prog.info? 36).map (·.size) = some (opc 4 s u a b l).length by rw [opc_len 4 s u l ha hb]; exact info68)
  have hxx := And.intro hs (And.intro hL (And.intro hT hG))
  clear hG hT hL ha hb hxx hs
  go_enter Tryz.func18, Tryz.ntmps18
  have k0 := HA.out.cell (i := 0) rfl
  generalize hW0 : w.alloc (.cells (opc 4 s u a b l).toArray 36) = W0 at *
  generalize hg : w.heap.size = g at *
  go_wp2_with (with_reducible show wpList _ _ _ ({ dst := _, op := Op.load 36 _, type := _, pos := _, after := _, guard := _ } :: _) _ _; refine Shut.out ?_)
  show wpList _ _ _ _ _ _
  refine wpList_load_mid rfl _ _ rfl g 0 rfl (opc 4 s u a b l) _ HA.out.range Tryz.underlying36 rfl HI.out ?_
  simp only [Act.put, List.setIfInBounds_toArray, List.set_cons_zero, List.set_cons_succ]
  go_wp2_with fail
  refine (HC _ HU.out).out.mono ?_
  rintro e w1 ⟨rfl, u1⟩
  have H1 := Hid.of (HU.out.trans u1)
  clear u1
  dsimp only
  go_wp2
  go_ret
  exact ⟨rfl, H1.out⟩
set_option maxRecDepth 100000 in
set_option maxHeartbeats 2000000 in
theorem plays_k5 (s u : ByteArray) (a b : List UInt8) (l : Value) (ha : a.length = 32) (hb : b.length = 32) (hs : s.size ≤ 1048576) (w : World) (hG : GR w) (hL : TabL w) (hT : TK w) : Calls Tryz.prog 18 #[.agg (opc 5 s u a b l).toArray] w fun e w' => e = .returned (.bool true) ∧ Up w w' := by
  have HA := Hid.of (at_new w 36 (opc 5 s u a b l))
  have HU := Hid.of ((Up.refl w).alloc (.cells (opc 5 s u a b l).toArray 36))
  have HC := fun w' => fun (k : Up w w') => Hid.of (esc_k5 s u a b l ha hb hs w' (hG.up k) (hT.up k))
  have HI := Hid.of (show (Tryz.prog.info? 36).map (·.size) = some (opc 5 s u a b l).length by rw [opc_len 5 s u l ha hb]; exact info68)
  have hxx := And.intro hs (And.intro hL (And.intro hT hG))
  clear hG hT hL ha hb hxx hs
  go_enter Tryz.func18, Tryz.ntmps18
  have k0 := HA.out.cell (i := 0) rfl
  generalize hW0 : w.alloc (.cells (opc 5 s u a b l).toArray 36) = W0 at *
  generalize hg : w.heap.size = g at *
  go_wp2_with (with_reducible show wpList _ _ _ ({ dst := _, op := Op.load 36 _, type := _, pos := _, after := _, guard := _ } :: _) _ _; refine Shut.out ?_)
  show wpList _ _ _ _ _ _
  refine wpList_load_mid rfl _ _ rfl g 0 rfl (opc 5 s u a b l) _ HA.out.range Tryz.underlying36 rfl HI.out ?_
  simp only [Act.put, List.setIfInBounds_toArray, List.set_cons_zero, List.set_cons_succ]
  go_wp2_with fail
  refine (HC _ HU.out).out.mono ?_
  rintro e w1 ⟨rfl, u1⟩
  have H1 := Hid.of (HU.out.trans u1)
  clear u1
  dsimp only
  go_wp2
  go_ret
  exact ⟨rfl, H1.out⟩
set_option maxRecDepth 100000 in
set_option maxHeartbeats 2000000 in
theorem plays_k6 (s u : ByteArray) (a b : List UInt8) (l : Value) (ha : a.length = 32) (hb : b.length = 32) (hs : s.size ≤ 1048576) (w : World) (hG : GR w) (hL : TabL w) (hT : TK w) : Calls Tryz.prog 18 #[.agg (opc 6 s u a b l).toArray] w fun e w' => e = .returned (.bool true) ∧ Up w w' := by
  have HA := Hid.of (at_new w 36 (opc 6 s u a b l))
  have HU := Hid.of ((Up.refl w).alloc (.cells (opc 6 s u a b l).toArray 36))
  have HC := fun w' => fun (k : Up w w') => Hid.of (esc_k6 s u a b l ha hb hs w' (hG.up k) (hT.up k))
  have HI := Hid.of (show (Tryz.prog.info? 36).map (·.size) = some (opc 6 s u a b l).length by rw [opc_len 6 s u l ha hb]; exact info68)
  have hxx := And.intro hs (And.intro hL (And.intro hT hG))
  clear hG hT hL ha hb hxx hs
  go_enter Tryz.func18, Tryz.ntmps18
  have k0 := HA.out.cell (i := 0) rfl
  generalize hW0 : w.alloc (.cells (opc 6 s u a b l).toArray 36) = W0 at *
  generalize hg : w.heap.size = g at *
  go_wp2_with (with_reducible show wpList _ _ _ ({ dst := _, op := Op.load 36 _, type := _, pos := _, after := _, guard := _ } :: _) _ _; refine Shut.out ?_)
  show wpList _ _ _ _ _ _
  refine wpList_load_mid rfl _ _ rfl g 0 rfl (opc 6 s u a b l) _ HA.out.range Tryz.underlying36 rfl HI.out ?_
  simp only [Act.put, List.setIfInBounds_toArray, List.set_cons_zero, List.set_cons_succ]
  go_wp2_with fail
  refine (HC _ HU.out).out.mono ?_
  rintro e w1 ⟨rfl, u1⟩
  have H1 := Hid.of (HU.out.trans u1)
  clear u1
  dsimp only
  go_wp2
  go_ret
  exact ⟨rfl, H1.out⟩
set_option maxRecDepth 100000 in
set_option maxHeartbeats 2000000 in
theorem plays_k8 (s u : ByteArray) (a b : List UInt8) (l : Value) (ha : a.length = 32) (hb : b.length = 32) (hs : s.size ≤ 1048576) (w : World) (hG : GR w) (hL : TabL w) (hT : TK w) : Calls Tryz.prog 18 #[.agg (opc 8 s u a b l).toArray] w fun e w' => e = .returned (.bool true) ∧ Up w w' := by
  have HA := Hid.of (at_new w 36 (opc 8 s u a b l))
  have HU := Hid.of ((Up.refl w).alloc (.cells (opc 8 s u a b l).toArray 36))
  have HC := fun w' => fun (k : Up w w') => Hid.of (rec_k8 s u a b l ha hb hs w' (hG.up k) (hL.below hL.lt k) (hT.up k))
  have HI := Hid.of (show (Tryz.prog.info? 36).map (·.size) = some (opc 8 s u a b l).length by rw [opc_len 8 s u l ha hb]; exact info68)
  have hxx := And.intro hs (And.intro hL (And.intro hT hG))
  clear hG hT hL ha hb hxx hs
  go_enter Tryz.func18, Tryz.ntmps18
  have k0 := HA.out.cell (i := 0) rfl
  generalize hW0 : w.alloc (.cells (opc 8 s u a b l).toArray 36) = W0 at *
  generalize hg : w.heap.size = g at *
  go_wp2_with (with_reducible show wpList _ _ _ ({ dst := _, op := Op.load 36 _, type := _, pos := _, after := _, guard := _ } :: _) _ _; refine Shut.out ?_)
  show wpList _ _ _ _ _ _
  refine wpList_load_mid rfl _ _ rfl g 0 rfl (opc 8 s u a b l) _ HA.out.range Tryz.underlying36 rfl HI.out ?_
  simp only [Act.put, List.setIfInBounds_toArray, List.set_cons_zero, List.set_cons_succ]
  go_wp2_with fail
  refine (HC _ HU.out).out.mono ?_
  rintro e w1 ⟨rfl, u1⟩
  have H1 := Hid.of (HU.out.trans u1)
  clear u1
  dsimp only
  go_wp2
  go_ret
  exact ⟨rfl, H1.out⟩
set_option maxRecDepth 100000 in
set_option maxHeartbeats 2000000 in
theorem plays_k12 (s u : ByteArray) (a b : List UInt8) (l : Value) (ha : a.length = 32) (hb : b.length = 32) (hs : s.size ≤ 1048576) (w : World) (hG : GR w) (hL : TabL w) (hT : TK w) : Calls Tryz.prog 18 #[.agg (opc 12 s u a b l).toArray] w fun e w' => e = .returned (.bool true) ∧ Up w w' := by
  have HA := Hid.of (at_new w 36 (opc 12 s u a b l))
  have HU := Hid.of ((Up.refl w).alloc (.cells (opc 12 s u a b l).toArray 36))
  have HC := fun w' => fun (k : Up w w') => Hid.of (rec_k12 s u a b l ha hb hs w' (hG.up k) (hL.below hL.lt k) (hT.up k))
  have HI := Hid.of (show (Tryz.prog.info? 36).map (·.size) = some (opc 12 s u a b l).length by rw [opc_len 12 s u l ha hb]; exact info68)
  have hxx := And.intro hs (And.intro hL (And.intro hT hG))
  clear hG hT hL ha hb hxx hs
  go_enter Tryz.func18, Tryz.ntmps18
  have k0 := HA.out.cell (i := 0) rfl
  generalize hW0 : w.alloc (.cells (opc 12 s u a b l).toArray 36) = W0 at *
  generalize hg : w.heap.size = g at *
  go_wp2_with (with_reducible show wpList _ _ _ ({ dst := _, op := Op.load 36 _, type := _, pos := _, after := _, guard := _ } :: _) _ _; refine Shut.out ?_)
  show wpList _ _ _ _ _ _
  refine wpList_load_mid rfl _ _ rfl g 0 rfl (opc 12 s u a b l) _ HA.out.range Tryz.underlying36 rfl HI.out ?_
  simp only [Act.put, List.setIfInBounds_toArray, List.set_cons_zero, List.set_cons_succ]
  go_wp2_with fail
  refine (HC _ HU.out).out.mono ?_
  rintro e w1 ⟨rfl, u1⟩
  have H1 := Hid.of (HU.out.trans u1)
  clear u1
  dsimp only
  go_wp2
  go_ret
  exact ⟨rfl, H1.out⟩
set_option maxRecDepth 100000 in
set_option maxHeartbeats 2000000 in
theorem plays_k14 (s u : ByteArray) (a b : List UInt8) (l : Value) (ha : a.length = 32) (hb : b.length = 32) (hs : s.size ≤ 1048576) (w : World) (hG : GR w) (hL : TabL w) (hT : TK w) : Calls Tryz.prog 18 #[.agg (opc 14 s u a b l).toArray] w fun e w' => e = .returned (.bool true) ∧ Up w w' := by
  have HA := Hid.of (at_new w 36 (opc 14 s u a b l))
  have HU := Hid.of ((Up.refl w).alloc (.cells (opc 14 s u a b l).toArray 36))
  have HC := fun w' => fun (k : Up w w') => Hid.of (rec_k14 s u a b l ha hb hs w' (hG.up k) (hL.below hL.lt k) (hT.up k))
  have HI := Hid.of (show (Tryz.prog.info? 36).map (·.size) = some (opc 14 s u a b l).length by rw [opc_len 14 s u l ha hb]; exact info68)
  have hxx := And.intro hs (And.intro hL (And.intro hT hG))
  clear hG hT hL ha hb hxx hs
  go_enter Tryz.func18, Tryz.ntmps18
  have k0 := HA.out.cell (i := 0) rfl
  generalize hW0 : w.alloc (.cells (opc 14 s u a b l).toArray 36) = W0 at *
  generalize hg : w.heap.size = g at *
  go_wp2_with (with_reducible show wpList _ _ _ ({ dst := _, op := Op.load 36 _, type := _, pos := _, after := _, guard := _ } :: _) _ _; refine Shut.out ?_)
  show wpList _ _ _ _ _ _
  refine wpList_load_mid rfl _ _ rfl g 0 rfl (opc 14 s u a b l) _ HA.out.range Tryz.underlying36 rfl HI.out ?_
  simp only [Act.put, List.setIfInBounds_toArray, List.set_cons_zero, List.set_cons_succ]
  go_wp2_with fail
  refine (HC _ HU.out).out.mono ?_
  rintro e w1 ⟨rfl, u1⟩
  have H1 := Hid.of (HU.out.trans u1)
  clear u1
  dsimp only
  go_wp2
  go_ret
  exact ⟨rfl, H1.out⟩
end Go.Proofs.YtnciglpdjpckiaaGreatDoor
