import Derived.Test.YtaphjbcnnkoffaaGreatDoorRb
import Derived.Test.YtaphjbcnnkoffaaGreatDoorMu
import Derived.Deep.RegionHeld3
namespace Go.Proofs.YtaphjbcnnkoffaaGreatDoor
open Go.RowKit Go.Shelf TextNum ModNum
theorem result_cell2_tmp {P : Program} {fn : Func} {q q1 q2 : Tmp} {T T1 : TypeId} (h : fn.results = #[.cell q T, .cell q1 T1, .tmp q2]) (tmps : Array Value) (w : World) (b b1 : Nat) (cs cs1 : List Value) (v : Value) {d d1 : TypeDesc}
    (hp : tmps.getD q undef = .pointer (some ⟨b, 0, none⟩)) (hp1 : tmps.getD q1 undef = .pointer (some ⟨b1, 0, none⟩)) (hv : tmps.getD q2 undef = v) (hc : w.rangeAt b 0 cs) (hu : P.underlying T = some d) (hd : d.isRow = true) (hi : (P.info? T).map (·.size) = some cs.length)
    (hc1 : w.rangeAt b1 0 cs1) (hu1 : P.underlying T1 = some d1) (hd1 : d1.isRow = true) (hi1 : (P.info? T1).map (·.size) = some cs1.length) : (results fn tmps).run P w = .ok (.tuple #[.agg cs.toArray, .agg cs1.toArray, v]) w := by
  have hp' : tmps[q]?.getD undef = .pointer (some ⟨b, 0, none⟩) := by simpa using hp
  have hp1' : tmps[q1]?.getD undef = .pointer (some ⟨b1, 0, none⟩) := by simpa using hp1
  have hv' : tmps[q2]?.getD undef = v := by simpa using hv
  simp [results, h, hp', hp1', hv', asAddr, run_loadVar_mid w b 0 T cs _ hc hu hd hi, run_loadVar_mid w b1 0 T1 cs1 _ hc1 hu1 hd1 hi1]
theorem setCell_same {w : World} {b i : Nat} {t : TypeId} {cs : List Value} {v : Value} (h : At w b t cs) (hi : cs[i]? = some v) : w.setCell ⟨b, i, none⟩ v = w := by
  have h' : w.heap[b]? = some (.cells cs.toArray t (0, 0)) := h
  have e : cs.toArray.setIfInBounds i v = cs.toArray := by
    apply Array.ext_getElem?
    intro k
    rw [Array.getElem?_setIfInBounds]
    split
    · rename_i hk
      subst hk
      obtain ⟨h1, h2⟩ := List.getElem?_eq_some_iff.1 hi
      simp [h1, h2]
    · rfl
  unfold World.setCell
  have : (w.heap.modify b fun
      | .cells c elem frozen => .cells (if (none : Option Nat).isSome then c else c.setIfInBounds i v) elem frozen
      | o => o) = w.heap := by
    apply Array.ext_getElem?
    intro k
    rw [Array.getElem?_modify]
    split
    · rename_i hk
      subst hk
      rw [h']
      simp [e]
    · rfl
  cases w
  simp only at this ⊢
  congr 1
theorem setCells_same {w : World} {b : Nat} {t : TypeId} {cs : List Value} (h : At w b t cs) : ∀ (vs : List Value) (o : Nat), (∀ j v, vs[j]? = some v → cs[o + j]? = some v) → w.setCells b o vs = w
  | [], _, _ => rfl
  | v :: r, o, hv => by
    show (w.setCell ⟨b, o, none⟩ v).setCells b (o + 1) r = w
    rw [setCell_same h (show cs[o]? = some v from hv 0 v rfl)]
    exact setCells_same h r (o + 1) fun j u hj => by
      have := hv (j + 1) u (by simpa using hj)
      rwa [show o + (j + 1) = o + 1 + j by omega] at this
theorem run_store_same {P : Program} {w : World} {b : Nat} {t ty : TypeId} {cs : List Value} (h : At w b t cs) (hi : (P.info? ty).map (·.size) = some cs.length) (h1 : cs.toArray.all (·.oneCell') = true) :
    (Instr.storeAt ty (.pointer (some ⟨b, 0, none⟩)) (.agg cs.toArray)).run P w = .ok () w := by
  rw [run_storeAt_mid w b 0 ty cs.toArray (by simpa using h.there) (by simpa using hi) h1]
  rw [show cs.toArray.toList = cs from rfl, setCells_same h cs 0 (fun j v hj => by simpa using hj)]
theorem run_load_at {P : Program} {w : World} {b : Nat} {t ty : TypeId} {cs : List Value} {d : TypeDesc} (h : At w b t cs) (hu : P.underlying ty = some d) (hd : d.isRow = true) (hi : (P.info? ty).map (·.size) = some cs.length) :
    (Instr.loadAt ty (.pointer (some ⟨b, 0, none⟩))).run P w = .ok (.agg cs.toArray) w := run_loadAt_mid w b 0 ty cs d h.range hu hd hi
/-- two rows in their blocks, which a drawn return reads and writes back -/
theorem tworows_a {w0 w2 : World} {b c n : Nat} {xs ys : List Value} (hb : w0.heap.size ≤ b) (hbc : b ≠ c) (hx : xs.length = n) (h : w2.rangeAt b 0 xs ∧ w2.rangeAt c 0 ys ∧ w2.there b 0 n ∧ w2.there c 0 n ∧ Up w0 w2) :
    (w2.setCells b 0 xs).rangeAt b 0 xs ∧ (w2.setCells b 0 xs).rangeAt c 0 ys ∧ (w2.setCells b 0 xs).there b 0 n ∧ (w2.setCells b 0 xs).there c 0 n ∧ Up w0 (w2.setCells b 0 xs) :=
  ⟨World.rangeAt_setCells_same _ _ _ _ (by rw [hx]; exact h.2.2.1), World.rangeAt_setCells_apart h.2.1 _ _ _ (.inl hbc.symm), World.there_setCells h.2.2.1 _ _ _, World.there_setCells h.2.2.2.1 _ _ _, h.2.2.2.2.by (grown_sets b _ _ _) (fun g hg => by injection hg with hg; omega)⟩
theorem tworows_b {w0 w2 : World} {b c n : Nat} {xs ys : List Value} (hb : w0.heap.size ≤ c) (hbc : b ≠ c) (hy : ys.length = n) (h : w2.rangeAt b 0 xs ∧ w2.rangeAt c 0 ys ∧ w2.there b 0 n ∧ w2.there c 0 n ∧ Up w0 w2) :
    (w2.setCells c 0 ys).rangeAt b 0 xs ∧ (w2.setCells c 0 ys).rangeAt c 0 ys ∧ (w2.setCells c 0 ys).there b 0 n ∧ (w2.setCells c 0 ys).there c 0 n ∧ Up w0 (w2.setCells c 0 ys) :=
  ⟨World.rangeAt_setCells_apart h.1 _ _ _ (.inl hbc), World.rangeAt_setCells_same _ _ _ _ (by rw [hy]; exact h.2.2.2.1), World.there_setCells h.2.2.1 _ _ _, World.there_setCells h.2.2.2.1 _ _ _, h.2.2.2.2.by (grown_sets c _ _ _) (fun g hg => by injection hg with hg; omega)⟩
/-- what readWords says -/
def rdw (p v s t : List UInt8) : List UInt8 × List UInt8 × Int := if fte p v ≠ 0 then (Z32, Z32, fte p v) else if (psm s).2 ≠ 0 then ((psm s).1, Z32, (psm s).2) else ((psm s).1, (psm t).1, (psm t).2)
theorem i32 {x : List UInt8} (h : x.length = 32) : (Tryz.prog.info? 36).map (·.size) = some (cb x).length := by rw [cb_length, h]; kernel_rfl
set_option maxRecDepth 100000 in
set_option maxHeartbeats 400000 in
theorem readWords_walk (p v s p' v' t : ByteArray) (w : World) (hG : GR w) (hT : TabL w) :
    Calls Tryz.prog 30 #[.agg #[.string p, .string v, .string s], .agg #[.string p', .string v', .string t]] w fun e w' => e = .returned (.tuple #[.agg (cb (rdw p.data.toList v.data.toList s.data.toList t.data.toList).1).toArray, .agg (cb (rdw p.data.toList v.data.toList s.data.toList t.data.toList).2.1).toArray, .int .i64 (rdw p.data.toList v.data.toList s.data.toList t.data.toList).2.2]) ∧ Up w w' := by
  have HF := fun w' => fun (u : Up w w') => Hid.of (partsFor_walk p v w' (hG.up u))
  have HS := fun w' => fun (u : Up w w') => Hid.of (ParseSum_walk s w' (hT.below hT.lt u))
  have HT := fun w' => fun (u : Up w w') => Hid.of (ParseSum_walk t w' (hT.below hT.lt u))
  have HR : Hid (rdw p.data.toList v.data.toList s.data.toList t.data.toList = if fte p.data.toList v.data.toList ≠ 0 then (Z32, Z32, fte p.data.toList v.data.toList) else if (psm s.data.toList).2 ≠ 0 then ((psm s.data.toList).1, Z32, (psm s.data.toList).2) else ((psm s.data.toList).1, (psm t.data.toList).1, (psm t.data.toList).2)) := rfl
  have hls := psm_len s.data.toList
  have hlt := psm_len t.data.toList
  clear hG hT
  have mixed : Tryz.prog.follows .mixedOrders = true := by kernel_rfl
  have HU0 : Hid (Up w ((((w.alloc (.cells #[.string p, .string v, .string s] 77)).alloc (.cells #[.string p', .string v', .string t] 77)).alloc (.cells (cb Z32).toArray 36)).alloc (.cells (cb Z32).toArray 36))) := ((((Up.refl w).alloc _).alloc _).alloc _).alloc _
  have HB1 : Hid (At ((((w.alloc (.cells #[.string p, .string v, .string s] 77)).alloc (.cells #[.string p', .string v', .string t] 77)).alloc (.cells (cb Z32).toArray 36)).alloc (.cells (cb Z32).toArray 36)) w.heap.size 77 [.string p, .string v, .string s]) := At.up (at_new w _ _) ((((Up.refl _).alloc _).alloc _).alloc _)
  have HB2 : Hid (At ((((w.alloc (.cells #[.string p, .string v, .string s] 77)).alloc (.cells #[.string p', .string v', .string t] 77)).alloc (.cells (cb Z32).toArray 36)).alloc (.cells (cb Z32).toArray 36)) (w.heap.size + 1) 77 [.string p', .string v', .string t]) := by
    have := at_new (w.alloc (.cells #[.string p, .string v, .string s] 77)) 77 [.string p', .string v', .string t]
    rw [alloc_size] at this
    exact At.up this (((Up.refl _).alloc _).alloc _)
  have HA4 : Hid (At ((((w.alloc (.cells #[.string p, .string v, .string s] 77)).alloc (.cells #[.string p', .string v', .string t] 77)).alloc (.cells (cb Z32).toArray 36)).alloc (.cells (cb Z32).toArray 36)) (w.heap.size + 1 + 1) 36 (cb Z32)) := by
    have := at_new ((w.alloc (.cells #[.string p, .string v, .string s] 77)).alloc (.cells #[.string p', .string v', .string t] 77)) 36 (cb Z32)
    rw [alloc_size, alloc_size] at this
    exact At.up this ((Up.refl _).alloc _)
  have HA5 : Hid (At ((((w.alloc (.cells #[.string p, .string v, .string s] 77)).alloc (.cells #[.string p', .string v', .string t] 77)).alloc (.cells (cb Z32).toArray 36)).alloc (.cells (cb Z32).toArray 36)) (w.heap.size + 1 + 1 + 1) 36 (cb Z32)) := by
    have := at_new (((w.alloc (.cells #[.string p, .string v, .string s] 77)).alloc (.cells #[.string p', .string v', .string t] 77)).alloc (.cells (cb Z32).toArray 36)) 36 (cb Z32)
    rw [alloc_size, alloc_size, alloc_size] at this
    exact this
  go_enter Tryz.func30, Tryz.ntmps30
  go_wp2_with fail
  rw [zlit]
  generalize (((w.alloc (.cells #[.string p, .string v, .string s] 77)).alloc (.cells #[.string p', .string v', .string t] 77)).alloc (.cells (cb Z32).toArray 36)).alloc (.cells (cb Z32).toArray 36) = W0 at *
  refine (HF _ HU0.out).out.mono ?_
  rintro e w1 ⟨n0, n1, n2, va, ws, inc, rfl, hS1, _, _, u1⟩
  have H1 := Hid.of (HU0.out.trans u1)
  have HA41 := Hid.of (HA4.out.up u1)
  have HA51 := Hid.of (HA5.out.up u1)
  have HB11 := Hid.of (HB1.out.up u1)
  have HB21 := Hid.of (HB2.out.up u1)
  obtain ⟨a0, c0, rfl⟩ := hS1.len
  generalize ws.length = wn at *
  clear hS1 u1 HF HA4 HA5 HB1 HB2 HU0
  dsimp only
  by_cases h0 : fte p.data.toList v.data.toList = 0
  · have HR2 := Hid.of (HR.out.trans (if_neg (fun h => h h0)))
    rw [h0]
    have d2 := HB11.out.cell (i := 2) rfl
    clear h0 HR
    go_wp2_with fail
    refine ((HS _ H1.out).out).mono ?_
    rintro e w2 ⟨rfl, u2⟩
    have H2 := Hid.of (H1.out.trans u2)
    have Hu2 := Hid.of u2
    clear u2
    dsimp only
    have HB22 := Hid.of (HB21.out.up Hu2.out)
    have HA42 := Hid.of (HA41.out.up Hu2.out)
    have HA52 := Hid.of (HA51.out.up Hu2.out)
    clear d2 HA41 HA51 HB11 HB21 Hu2 HS
    generalize psm s.data.toList = ps at *
    obtain ⟨x, k⟩ := ps
    dsimp only at *
    go_wp2_with (with_reducible show wpList _ _ _ ({ dst := _, op := Op.store 36 _ _, type := _, pos := _, after := _, guard := _ } :: _) _ _; refine Shut.out ?_)
    show wpList _ _ _ _ _ _
    refine wpList_store_at rfl _ _ _ rfl (w.heap.size + 1 + 1) HA42.out (cb x) rfl rfl (by rw [cb_length, cb_length, hls]; rfl) (by rw [List.size_toArray, cb_length, hls]; kernel_rfl) (cb_all _) fun w3 hA3 hg3 => ?_
    have HA43 := Hid.of hA3
    have HA53 := Hid.of (HA52.out.by hg3 (by intro h; injection h with h; omega))
    have HB23 := Hid.of (HB22.out.by hg3 (by intro h; injection h with h; omega))
    have H3 := Hid.of (H2.out.by hg3 (fun g hg => by injection hg with hg; omega))
    clear hA3 hg3 HA42 HA52 HB22 H2
    simp only [Act.put]
    by_cases hk : k = 0
    · subst hk
      have HR3 := Hid.of (HR2.out.trans (if_neg (fun h => h rfl)))
      have d2 := HB23.out.cell (i := 2) rfl
      go_wp2_with fail
      refine ((HT _ H3.out).out).mono ?_
      rintro e w4 ⟨rfl, u4⟩
      have H4 := Hid.of (H3.out.trans u4)
      have Hu4 := Hid.of u4
      clear u4
      dsimp only
      have HA44 := Hid.of (HA43.out.up Hu4.out)
      have HA54 := Hid.of (HA53.out.up Hu4.out)
      clear d2 HA43 HA53 HB23 Hu4 HT HR2
      generalize psm t.data.toList = pt at *
      obtain ⟨y, k2⟩ := pt
      dsimp only at *
      go_wp2_with (with_reducible show wpList _ _ _ ({ dst := _, op := Op.store 36 _ _, type := _, pos := _, after := _, guard := _ } :: _) _ _; refine Shut.out ?_)
      show wpList _ _ _ _ _ _
      refine wpList_store_at rfl _ _ _ rfl (w.heap.size + 1 + 1 + 1) HA54.out (cb y) rfl rfl (by rw [cb_length, cb_length, hlt]; rfl) (by rw [List.size_toArray, cb_length, hlt]; kernel_rfl) (cb_all _) fun w5 hA5 hg5 => ?_
      have HA55 := Hid.of hA5
      have HA45 := Hid.of (HA44.out.by hg5 (by intro h; injection h with h; omega))
      have H5 := Hid.of (H4.out.by hg5 (fun g hg => by injection hg with hg; omega))
      clear hA5 hg5 HA44 HA54 H4
      simp only [Act.put]
      go_wp2
      have ix := i32 hls
      have lx : (cb x).length = 32 := by rw [cb_length, hls]
      have ox := cb_all x
      have iy := i32 hlt
      have ly : (cb y).length = 32 := by rw [cb_length, hlt]
      have oy := cb_all y
      generalize hxx : cb x = xx at *
      generalize hzz : cb y = zz at *
      have HZZ := Hid.of (And.intro hxx hzz)
      clear hxx hzz
      refine wp_region_held_drew (S := fun w2 => w2.rangeAt (w.heap.size + 1 + 1) 0 (xx) ∧ w2.rangeAt (w.heap.size + 1 + 1 + 1) 0 (zz) ∧ w2.there (w.heap.size + 1 + 1) 0 32 ∧ w2.there (w.heap.size + 1 + 1 + 1) 0 32 ∧ Up w w2) (by kernel_rfl) ⟨by simpa using HA45.out.range, by simpa using HA55.out.range, by simpa [lx] using HA45.out.there, by simpa [ly] using HA55.out.there, H5.out.drew⟩ (fun hS => ?_)
      refine wpAnyH_take (i := 0) (oi := { dst := some 37, op := Go.Op.load 36 (Go.Operand.tmp 4), type := 36, pos := "record.go:95", after := #[], guard := none }) (v := .agg (xx).toArray) rfl (by kernel_rfl) (by kernel_rfl) (by kernel_rfl) (fun _ _ _ h => h) (yieldsIf_load_mid (by kernel_rfl) _ _ rfl (w.heap.size + 1 + 1) 0 rfl (xx) _ (fun w5 hSw => hSw.1) Tryz.underlying36 rfl ix) hS ?_
      simp only [Act.put, List.setIfInBounds_toArray, List.set_cons_zero, List.set_cons_succ]
      refine wpAnyH_take (i := 1) (oi := { dst := some 38, op := Go.Op.load 36 (Go.Operand.tmp 5), type := 36, pos := "record.go:95", after := #[{ on := 3, ground := Go.Ground.gcOnly Go.Departure.lateStores }], guard := none }) (v := .agg (zz).toArray) rfl (by kernel_rfl) (by kernel_rfl) (by kernel_rfl) (fun _ _ _ h => h) (yieldsIf_load_mid (by kernel_rfl) _ _ rfl (w.heap.size + 1 + 1 + 1) 0 rfl (zz) _ (fun w5 hSw => hSw.2.1) Tryz.underlying36 rfl iy) hS ?_
      simp only [Act.put, List.setIfInBounds_toArray, List.set_cons_zero, List.set_cons_succ]
      refine wpAnyH_take (i := 2) (oi := { dst := some 39, op := Go.Op.move (Go.Operand.tmp 6), type := 23, pos := "record.go:95", after := #[{ on := 4, ground := Go.Ground.gcOnly Go.Departure.lateStores }], guard := none }) (v := .int .i64 k2) rfl (by kernel_rfl) (by kernel_rfl) (by kernel_rfl) (fun _ _ _ h => h) (Or.inl ⟨by kernel_rfl, ?_⟩) hS ?_
      · intro w5 hSw
        go_simp
      simp only [Act.put, List.setIfInBounds_toArray, List.set_cons_zero, List.set_cons_succ]
      refine wpAnyH_ready (rs := [3]) (by kernel_rfl) (by simp) ?_
      refine AllReadyH.cons (o := { dst := none, op := Go.Op.store 36 (Go.Operand.tmp 4) (Go.Operand.tmp 37), type := 0, pos := "record.go:95", after := #[{ on := 0, ground := Go.Ground.data }, { on := 0, ground := Go.Ground.phase }, { on := 1, ground := Go.Ground.textOnly Go.Departure.lateStores }, { on := 2, ground := Go.Ground.textOnly Go.Departure.lateStores }], guard := none }) rfl (fun K hK => ?_) AllReadyH.nil
      rw [if_pos (by kernel_rfl)]
      refine wp_store_mid _ _ _ rfl (w.heap.size + 1 + 1) 0 (xx).toArray rfl rfl (show World.there _ _ _ (List.length (xx)) by rw [lx]; exact hS.2.2.1) ix ox ?_
      simp only [Act.put]
      refine hK.out _ _ (tworows_a (by omega) (by omega) lx hS) (fun hS1 => ?_)
      clear hK hS
      refine wpAnyH_ready (rs := [4]) (by kernel_rfl) (by simp) ?_
      refine AllReadyH.cons (o := { dst := none, op := Go.Op.store 36 (Go.Operand.tmp 5) (Go.Operand.tmp 38), type := 0, pos := "record.go:95", after := #[{ on := 1, ground := Go.Ground.data }, { on := 3, ground := Go.Ground.chain }, { on := 0, ground := Go.Ground.phase }, { on := 1, ground := Go.Ground.phase }, { on := 2, ground := Go.Ground.textOnly Go.Departure.lateStores }, { on := 3, ground := Go.Ground.phase }], guard := none }) rfl (fun K hK => ?_) AllReadyH.nil
      rw [if_pos (by kernel_rfl)]
      refine wp_store_mid _ _ _ rfl (w.heap.size + 1 + 1 + 1) 0 (zz).toArray rfl rfl (show World.there _ _ _ (List.length (zz)) by rw [ly]; exact hS1.2.2.2.1) iy oy ?_
      simp only [Act.put]
      refine hK.out _ _ (tworows_b (by omega) (by omega) ly hS1) (fun hS2 => ?_)
      clear hK hS1
      refine wpAnyH_ready (rs := [5]) (by kernel_rfl) (by simp) ?_
      refine AllReadyH.cons (o := { dst := some 6, op := Go.Op.assign (Go.Operand.tmp 39), type := 23, pos := "record.go:95", after := #[{ on := 2, ground := Go.Ground.data }, { on := 4, ground := Go.Ground.chain }, { on := 0, ground := Go.Ground.phase }, { on := 1, ground := Go.Ground.phase }, { on := 2, ground := Go.Ground.phase }, { on := 3, ground := Go.Ground.phase }, { on := 4, ground := Go.Ground.phase }], guard := none }) rfl (fun K hK => ?_) AllReadyH.nil
      rw [if_pos (by kernel_rfl)]
      go_simp
      refine hK.out _ _ hS2 (fun hS3 => ?_)
      clear hK hS2
      refine wpAnyH_done (by kernel_rfl) ?_ _
      have HSZ := Hid.of hS3
      clear hS3
      generalize World.setCells _ _ _ _ = WZ at *
      go_wp2_with fail
      refine bodyPost_ret (result_cell2_tmp Tryz.results30 _ _ _ _ _ _ _ rfl rfl rfl HSZ.out.1 Tryz.underlying36 rfl ix HSZ.out.2.1 Tryz.underlying36 rfl iy) rfl ?_
      rw [HR3.out]
      exact ⟨by rw [← HZZ.out.1, ← HZZ.out.2]; rfl, HSZ.out.2.2.2.2⟩
    · have HR3 := Hid.of (HR2.out.trans (if_pos hk))
      have hkz : (k != 0) = true := by rw [bne_iff_ne]; exact hk
      clear hk HR2 HT
      go_wp2
      have ix := i32 hls
      have lx : (cb x).length = 32 := by rw [cb_length, hls]
      have ox := cb_all x
      have iy := i32 (show Z32.length = 32 from rfl)
      have ly : (cb Z32).length = 32 := rfl
      have oy := cb_all Z32
      generalize hxx : cb x = xx at *
      generalize hzz : cb Z32 = zz at *
      have HZZ := Hid.of (And.intro hxx hzz)
      clear hxx hzz
      refine wp_region_held_drew (S := fun w2 => w2.rangeAt (w.heap.size + 1 + 1) 0 (xx) ∧ w2.rangeAt (w.heap.size + 1 + 1 + 1) 0 (zz) ∧ w2.there (w.heap.size + 1 + 1) 0 32 ∧ w2.there (w.heap.size + 1 + 1 + 1) 0 32 ∧ Up w w2) (by kernel_rfl) ⟨by simpa using HA43.out.range, by simpa using HA53.out.range, by simpa [lx] using HA43.out.there, by simpa [ly] using HA53.out.there, H3.out.drew⟩ (fun hS => ?_)
      refine wpAnyH_take (i := 0) (oi := { dst := some 28, op := Go.Op.load 36 (Go.Operand.tmp 4), type := 36, pos := "record.go:92", after := #[], guard := none }) (v := .agg (xx).toArray) rfl (by kernel_rfl) (by kernel_rfl) (by kernel_rfl) (fun _ _ _ h => h) (yieldsIf_load_mid (by kernel_rfl) _ _ rfl (w.heap.size + 1 + 1) 0 rfl (xx) _ (fun w5 hSw => hSw.1) Tryz.underlying36 rfl ix) hS ?_
      simp only [Act.put, List.setIfInBounds_toArray, List.set_cons_zero, List.set_cons_succ]
      refine wpAnyH_take (i := 1) (oi := { dst := some 29, op := Go.Op.load 36 (Go.Operand.tmp 5), type := 36, pos := "record.go:92", after := #[{ on := 3, ground := Go.Ground.gcOnly Go.Departure.lateStores }], guard := none }) (v := .agg (zz).toArray) rfl (by kernel_rfl) (by kernel_rfl) (by kernel_rfl) (fun _ _ _ h => h) (yieldsIf_load_mid (by kernel_rfl) _ _ rfl (w.heap.size + 1 + 1 + 1) 0 rfl (zz) _ (fun w5 hSw => hSw.2.1) Tryz.underlying36 rfl iy) hS ?_
      simp only [Act.put, List.setIfInBounds_toArray, List.set_cons_zero, List.set_cons_succ]
      refine wpAnyH_take (i := 2) (oi := { dst := some 30, op := Go.Op.move (Go.Operand.tmp 6), type := 23, pos := "record.go:92", after := #[{ on := 4, ground := Go.Ground.gcOnly Go.Departure.lateStores }], guard := none }) (v := .int .i64 k) rfl (by kernel_rfl) (by kernel_rfl) (by kernel_rfl) (fun _ _ _ h => h) (Or.inl ⟨by kernel_rfl, ?_⟩) hS ?_
      · intro w5 hSw
        go_simp
      simp only [Act.put, List.setIfInBounds_toArray, List.set_cons_zero, List.set_cons_succ]
      refine wpAnyH_ready (rs := [3]) (by kernel_rfl) (by simp) ?_
      refine AllReadyH.cons (o := { dst := none, op := Go.Op.store 36 (Go.Operand.tmp 4) (Go.Operand.tmp 28), type := 0, pos := "record.go:92", after := #[{ on := 0, ground := Go.Ground.data }, { on := 0, ground := Go.Ground.phase }, { on := 1, ground := Go.Ground.textOnly Go.Departure.lateStores }, { on := 2, ground := Go.Ground.textOnly Go.Departure.lateStores }], guard := none }) rfl (fun K hK => ?_) AllReadyH.nil
      rw [if_pos (by kernel_rfl)]
      refine wp_store_mid _ _ _ rfl (w.heap.size + 1 + 1) 0 (xx).toArray rfl rfl (show World.there _ _ _ (List.length (xx)) by rw [lx]; exact hS.2.2.1) ix ox ?_
      simp only [Act.put]
      refine hK.out _ _ (tworows_a (by omega) (by omega) lx hS) (fun hS1 => ?_)
      clear hK hS
      refine wpAnyH_ready (rs := [4]) (by kernel_rfl) (by simp) ?_
      refine AllReadyH.cons (o := { dst := none, op := Go.Op.store 36 (Go.Operand.tmp 5) (Go.Operand.tmp 29), type := 0, pos := "record.go:92", after := #[{ on := 1, ground := Go.Ground.data }, { on := 3, ground := Go.Ground.chain }, { on := 0, ground := Go.Ground.phase }, { on := 1, ground := Go.Ground.phase }, { on := 2, ground := Go.Ground.textOnly Go.Departure.lateStores }, { on := 3, ground := Go.Ground.phase }], guard := none }) rfl (fun K hK => ?_) AllReadyH.nil
      rw [if_pos (by kernel_rfl)]
      refine wp_store_mid _ _ _ rfl (w.heap.size + 1 + 1 + 1) 0 (zz).toArray rfl rfl (show World.there _ _ _ (List.length (zz)) by rw [ly]; exact hS1.2.2.2.1) iy oy ?_
      simp only [Act.put]
      refine hK.out _ _ (tworows_b (by omega) (by omega) ly hS1) (fun hS2 => ?_)
      clear hK hS1
      refine wpAnyH_ready (rs := [5]) (by kernel_rfl) (by simp) ?_
      refine AllReadyH.cons (o := { dst := some 6, op := Go.Op.assign (Go.Operand.tmp 30), type := 23, pos := "record.go:92", after := #[{ on := 2, ground := Go.Ground.data }, { on := 4, ground := Go.Ground.chain }, { on := 0, ground := Go.Ground.phase }, { on := 1, ground := Go.Ground.phase }, { on := 2, ground := Go.Ground.phase }, { on := 3, ground := Go.Ground.phase }, { on := 4, ground := Go.Ground.phase }], guard := none }) rfl (fun K hK => ?_) AllReadyH.nil
      rw [if_pos (by kernel_rfl)]
      go_simp
      refine hK.out _ _ hS2 (fun hS3 => ?_)
      clear hK hS2
      refine wpAnyH_done (by kernel_rfl) ?_ _
      have HSZ := Hid.of hS3
      clear hS3
      generalize World.setCells _ _ _ _ = WZ at *
      go_wp2_with fail
      refine bodyPost_ret (result_cell2_tmp Tryz.results30 _ _ _ _ _ _ _ rfl rfl rfl HSZ.out.1 Tryz.underlying36 rfl ix HSZ.out.2.1 Tryz.underlying36 rfl iy) rfl ?_
      rw [HR3.out]
      exact ⟨by rw [← HZZ.out.1, ← HZZ.out.2]; rfl, HSZ.out.2.2.2.2⟩
  · have HR2 := Hid.of (HR.out.trans (if_pos h0))
    have h0z : (fte p.data.toList v.data.toList != 0) = true := by rw [bne_iff_ne]; exact h0
    generalize fte p.data.toList v.data.toList = fe at *
    clear h0 HR HS HT hls hlt HB11 HB21
    go_wp2
    have ix := i32 (show Z32.length = 32 from rfl)
    have lx : (cb Z32).length = 32 := rfl
    have ox := cb_all Z32
    generalize hzz : cb Z32 = zz at *
    have HZZ := Hid.of (And.intro hzz trivial)
    clear hzz
    have iy := ix
    have ly := lx
    have oy := ox
    refine wp_region_held_drew (S := fun w2 => w2.rangeAt (w.heap.size + 1 + 1) 0 (zz) ∧ w2.rangeAt (w.heap.size + 1 + 1 + 1) 0 (zz) ∧ w2.there (w.heap.size + 1 + 1) 0 32 ∧ w2.there (w.heap.size + 1 + 1 + 1) 0 32 ∧ Up w w2) (by kernel_rfl) ⟨by simpa using HA41.out.range, by simpa using HA51.out.range, by simpa [lx] using HA41.out.there, by simpa [ly] using HA51.out.there, H1.out.drew⟩ (fun hS => ?_)
    refine wpAnyH_take (i := 0) (oi := { dst := some 17, op := Go.Op.load 36 (Go.Operand.tmp 4), type := 36, pos := "record.go:89", after := #[], guard := none }) (v := .agg (zz).toArray) rfl (by kernel_rfl) (by kernel_rfl) (by kernel_rfl) (fun _ _ _ h => h) (yieldsIf_load_mid (by kernel_rfl) _ _ rfl (w.heap.size + 1 + 1) 0 rfl (zz) _ (fun w5 hSw => hSw.1) Tryz.underlying36 rfl ix) hS ?_
    simp only [Act.put, List.setIfInBounds_toArray, List.set_cons_zero, List.set_cons_succ]
    refine wpAnyH_take (i := 1) (oi := { dst := some 18, op := Go.Op.load 36 (Go.Operand.tmp 5), type := 36, pos := "record.go:89", after := #[{ on := 3, ground := Go.Ground.gcOnly Go.Departure.lateStores }], guard := none }) (v := .agg (zz).toArray) rfl (by kernel_rfl) (by kernel_rfl) (by kernel_rfl) (fun _ _ _ h => h) (yieldsIf_load_mid (by kernel_rfl) _ _ rfl (w.heap.size + 1 + 1 + 1) 0 rfl (zz) _ (fun w5 hSw => hSw.2.1) Tryz.underlying36 rfl iy) hS ?_
    simp only [Act.put, List.setIfInBounds_toArray, List.set_cons_zero, List.set_cons_succ]
    refine wpAnyH_take (i := 2) (oi := { dst := some 19, op := Go.Op.move (Go.Operand.tmp 6), type := 23, pos := "record.go:89", after := #[{ on := 4, ground := Go.Ground.gcOnly Go.Departure.lateStores }], guard := none }) (v := .int .i64 fe) rfl (by kernel_rfl) (by kernel_rfl) (by kernel_rfl) (fun _ _ _ h => h) (Or.inl ⟨by kernel_rfl, ?_⟩) hS ?_
    · intro w5 hSw
      go_simp
    simp only [Act.put, List.setIfInBounds_toArray, List.set_cons_zero, List.set_cons_succ]
    refine wpAnyH_ready (rs := [3]) (by kernel_rfl) (by simp) ?_
    refine AllReadyH.cons (o := { dst := none, op := Go.Op.store 36 (Go.Operand.tmp 4) (Go.Operand.tmp 17), type := 0, pos := "record.go:89", after := #[{ on := 0, ground := Go.Ground.data }, { on := 0, ground := Go.Ground.phase }, { on := 1, ground := Go.Ground.textOnly Go.Departure.lateStores }, { on := 2, ground := Go.Ground.textOnly Go.Departure.lateStores }], guard := none }) rfl (fun K hK => ?_) AllReadyH.nil
    rw [if_pos (by kernel_rfl)]
    refine wp_store_mid _ _ _ rfl (w.heap.size + 1 + 1) 0 (zz).toArray rfl rfl (show World.there _ _ _ (List.length (zz)) by rw [lx]; exact hS.2.2.1) ix ox ?_
    simp only [Act.put]
    refine hK.out _ _ (tworows_a (by omega) (by omega) lx hS) (fun hS1 => ?_)
    clear hK hS
    refine wpAnyH_ready (rs := [4]) (by kernel_rfl) (by simp) ?_
    refine AllReadyH.cons (o := { dst := none, op := Go.Op.store 36 (Go.Operand.tmp 5) (Go.Operand.tmp 18), type := 0, pos := "record.go:89", after := #[{ on := 1, ground := Go.Ground.data }, { on := 3, ground := Go.Ground.chain }, { on := 0, ground := Go.Ground.phase }, { on := 1, ground := Go.Ground.phase }, { on := 2, ground := Go.Ground.textOnly Go.Departure.lateStores }, { on := 3, ground := Go.Ground.phase }], guard := none }) rfl (fun K hK => ?_) AllReadyH.nil
    rw [if_pos (by kernel_rfl)]
    refine wp_store_mid _ _ _ rfl (w.heap.size + 1 + 1 + 1) 0 (zz).toArray rfl rfl (show World.there _ _ _ (List.length (zz)) by rw [ly]; exact hS1.2.2.2.1) iy oy ?_
    simp only [Act.put]
    refine hK.out _ _ (tworows_b (by omega) (by omega) ly hS1) (fun hS2 => ?_)
    clear hK hS1
    refine wpAnyH_ready (rs := [5]) (by kernel_rfl) (by simp) ?_
    refine AllReadyH.cons (o := { dst := some 6, op := Go.Op.assign (Go.Operand.tmp 19), type := 23, pos := "record.go:89", after := #[{ on := 2, ground := Go.Ground.data }, { on := 4, ground := Go.Ground.chain }, { on := 0, ground := Go.Ground.phase }, { on := 1, ground := Go.Ground.phase }, { on := 2, ground := Go.Ground.phase }, { on := 3, ground := Go.Ground.phase }, { on := 4, ground := Go.Ground.phase }], guard := none }) rfl (fun K hK => ?_) AllReadyH.nil
    rw [if_pos (by kernel_rfl)]
    go_simp
    refine hK.out _ _ hS2 (fun hS3 => ?_)
    clear hK hS2
    refine wpAnyH_done (by kernel_rfl) ?_ _
    have HSZ := Hid.of hS3
    clear hS3
    generalize World.setCells _ _ _ _ = WZ at *
    go_wp2_with fail
    refine bodyPost_ret (result_cell2_tmp Tryz.results30 _ _ _ _ _ _ _ rfl rfl rfl HSZ.out.1 Tryz.underlying36 rfl ix HSZ.out.2.1 Tryz.underlying36 rfl iy) rfl ?_
    rw [HR2.out]
    exact ⟨by rw [← HZZ.out.1]; rfl, HSZ.out.2.2.2.2⟩
end Go.Proofs.YtaphjbcnnkoffaaGreatDoor
