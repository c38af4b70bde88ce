import Derived.Test.YtaibjeehjhlicaaDoorYbf
import Derived.Maps.OwnOps
namespace Go.Proofs.YtaibjeehjhlicaaDoor
open Go.RowKit Go.Shelf TextNum ModNum
abbrev nmsOf (fs : List GF) : List (List UInt8) := fs.map fun g => g.nm.data.toList
abbrev ON (w : World) (M n : Nat) (D : DataW Unit) : Prop := w.ownsMap Tryd.prog 9 (plainElem Tryd.prog 3) M n D
theorem ON.up {w w' : World} {M n : Nat} {D : DataW Unit} (h : ON w M n D) (k : Up w w') : ON w' M n D := by
  have hl := World.ownsMap.lt h
  obtain ⟨es, cl, hb, r⟩ := h
  exact ⟨es, cl, (k.block M hl).trans hb, r⟩
theorem run_mkMapN {P : Program} (t k e : TypeId) (ht : P.underlying t = some (.map k e)) (n : Int) (w : World) : (Instr.makeMap t (some (.int .i64 n))).run P w = .ok (.map (some w.heap.size)) (w.alloc (.map #[] 0)) := run_mkMap t k e ht n w
/-- a count of names -/
structure Cnt (dm : DataW Unit) (ls : List (List UInt8)) : Prop where
  has : ∀ l, Maps.has dm (.string l) = true ↔ l ∈ ls
  val : ∀ l c, dm.atKey (.string l) (.lit (.int .i64 0)) = .lit (.int .i64 c) → 0 ≤ c ∧ c ≤ ls.length
  le : Maps.size dm ≤ ls.length
  eq : Maps.size dm = ls.length ↔ ls.Nodup
theorem Cnt.nil : Cnt (.map []) [] := ⟨fun l => by simp [Maps.has_eq], fun l c h => by
  have : (DataW.map [] : DataW Unit).atKey (.string l) (.lit (.int .i64 0)) = .lit (.int .i64 0) := rfl
  rw [this] at h
  injection h with h
  injection h with _ h
  omega, Nat.le_refl _, by simp [Maps.size_eq]⟩
theorem Cnt.step {dm : DataW Unit} {ls : List (List UInt8)} (h : Cnt dm ls) (hm : Maps.IsMap dm) (ht : Maps.Tidy dm) (x : List UInt8) (c : Int) (hc0 : 0 ≤ c) (hc : c ≤ ls.length) : Cnt (dm.put (.string x) (.lit (.int .i64 (c + 1)))) (ls ++ [x]) := by
  have sz := Maps.size_put (k := .string x) ht (.lit (.int .i64 (c + 1)))
  refine ⟨fun l => ?_, fun l c' hl => ?_, ?_, ?_⟩
  · by_cases hx : l = x
    · subst hx
      rw [Maps.has_put_same hm (by simp [WideAt.IsKeyLit])]
      simp
    · rw [Maps.has_put_other (str_ne hx), h.has l]
      simp [hx]
  · by_cases hx : l = x
    · subst hx
      rw [Maps.atKey_put_same hm (by simp [WideAt.IsKeyLit])] at hl
      injection hl with hl
      injection hl with _ hl
      rw [List.length_append]
      simp only [List.length_singleton]
      omega
    · rw [Maps.atKey_put_other (str_ne hx)] at hl
      have := h.val l c' hl
      rw [List.length_append]
      simp only [List.length_singleton]
      omega
  · rw [sz, List.length_append]
    have := h.le
    simp only [List.length_singleton]
    split <;> omega
  · rw [sz, List.length_append]
    have hle := h.le
    simp only [List.length_singleton]
    by_cases hx : x ∈ ls
    · rw [if_pos ((h.has x).2 hx)]
      constructor
      · intro e; omega
      · intro nd
        rw [List.nodup_append] at nd
        exact absurd rfl (nd.2.2 x hx x (by simp))
    · rw [if_neg (fun e => hx ((h.has x).1 e))]
      have : (ls ++ [x]).Nodup ↔ ls.Nodup := by
        rw [List.nodup_append]
        constructor
        · exact fun h => h.1
        · exact fun h => ⟨h, by simp, fun a ha b hb e => hx (by simp only [List.mem_singleton] at hb; rw [← hb, ← e]; exact ha)⟩
      rw [this, ← h.eq]
      omega
theorem nms_take {fs : List GF} {j : Nat} (hj : j < fs.length) : nmsOf (fs.take (j + 1)) = nmsOf (fs.take j) ++ [fs[j].nm.data.toList] := by
  unfold nmsOf
  rw [List.take_succ_eq_append_getElem hj, List.map_append]
  rfl
set_option maxRecDepth 100000 in
set_option maxHeartbeats 4000000 in
theorem namedTwice_gen (a : Option Addr) (fs : List GF) (c : Nat) (w : World) (hF : FsL w a fs c) (hnm : ∀ g ∈ fs, isNm g.nm.data.toList = true) (hlen : fs.length ≤ 1000000) :
    Calls Tryd.prog 13 #[.slice a fs.length c] w fun e w' => e = .returned (.bool (decide (¬ (nmsOf fs).Nodup))) ∧ Up w w' := by
  have hmk := fun w' => run_mkMap (P := Tryd.prog) 63 9 3 Tryd.underlying63 fs.length w'
  have HM0 := Hid.of (World.ownsMap_made (H := Unit) w Tryd.prog 9 (plainElem Tryd.prog 3))
  have HU0 := Hid.of ((Up.refl w).alloc (.map #[] 0))
  have HF := Hid.of hF
  have HNm := Hid.of hnm
  have hcap := hF.cap
  clear hF hnm
  go_enter Tryd.func13, Tryd.ntmps13
  go_wp2
  clear hmk
  obtain ⟨M, hM⟩ : ∃ M, M = w.heap.size := ⟨_, rfl⟩
  rw [← hM]
  rw [← hM] at HM0
  have HMw := Hid.of (show w.heap.size ≤ M by omega)
  generalize w.alloc (.map #[] 0) = w1 at *
  clear hM
  go_loopw [5, 11] (fun _ v11 wr => ∃ j : Nat, v11 = .int .i64 (j : Int) ∧ j ≤ fs.length ∧ Hid (∃ dm, ON wr M j dm ∧ Cnt dm (nmsOf (fs.take j)) ∧ Up w wr)) (fun _ v11 _ => fs.length - (intOf v11).toNat)
  case atStart => exact ⟨0, rfl, by omega, Hid.of ⟨_, HM0.out, Cnt.nil, HU0.out⟩⟩
  case round =>
    obtain ⟨j, rfl, hj, hQ⟩ := hrel
    obtain ⟨dm, hM, hC, hU⟩ := hQ.out
    have HM := Hid.of hM
    have HC := Hid.of hC
    have HU := Hid.of hU
    have hjj : (nmsOf (fs.take j)).length = j := by simp [nmsOf]; omega
    have HJj := Hid.of hjj
    clear hQ hM hC hU HM0 HU0 hjj
    by_cases hjl : j < fs.length
    · have hjz : (j : Int) < (fs.length : Int) := by omega
      obtain ⟨b, off, rfl, k1, k2⟩ := (HF.out.up HU.out).cells j hjl
      have HSb := Hid.of ((HF.out.up HU.out).sb fs[j] (List.getElem_mem hjl))
      have HR := Hid.of (range2 k1 k2)
      have HNj := Hid.of (HNm.out fs[j] (List.getElem_mem hjl))
      have HT := Hid.of (nms_take hjl)
      obtain ⟨g, hg⟩ : ∃ g, fs[j] = g := ⟨_, rfl⟩
      rw [hg] at HSb HR HNj HT
      clear k1 k2 hg
      obtain ⟨ag, cg, hvg, _⟩ := id HSb.out
      have HVG := Hid.of hvg
      clear hvg
      go_wp2_with (with_reducible show wpList _ _ _ ({ dst := _, op := Op.indexAddr 30 _ _, type := _, pos := _, after := _, guard := _ } :: _) _ _; refine Shut.out ?_)
      show wpList _ _ _ _ _ _
      refine wpList_val7' (.pointer (some ⟨b, off + j * 2, none⟩)) rfl (exec_idxFile j hjl rfl rfl rfl) ?_
      simp only [Act.put, List.setIfInBounds_toArray, List.set_cons_zero, List.set_cons_succ]
      refine wpList_load_mid rfl _ _ rfl b (off + j * 2) rfl [.string g.nm, g.v] _ HR.out Tryd.underlying29 rfl infoFile ?_
      simp only [Act.put, List.setIfInBounds_toArray, List.set_cons_zero, List.set_cons_succ]
      go_wp2_with (with_reducible show wpList _ _ _ ({ dst := _, op := Op.store 29 _ _, type := _, pos := _, after := _, guard := _ } :: _) _ _; refine Shut.out ?_)
      show wpList _ _ _ _ _ _
      refine wpList_store_at rfl 29 _ _ rfl wr.heap.size (at_new wr 29 [.string ⟨#[]⟩, .slice none 0 0]) [.string g.nm, g.v] rfl rfl rfl infoFile (all2 rfl (by rw [HVG.out]; rfl)) ?_
      intro w4 hA4 hg4
      have hU4 := ((Up.refl wr).alloc (.cells [.string ⟨#[]⟩, .slice none 0 0].toArray 29)).by hg4 (fun g hg => by have := Option.some.inj hg; omega)
      have HU4 := Hid.of (HU.out.trans hU4)
      have HM4 := Hid.of (HM.out.up hU4)
      have c0 := hA4.cell (i := 0) rfl
      have HK := Hid.of (keyS g.nm (by rw [Go.Lib.size_eq]; exact nm_len HNj.out))
      generalize wr.heap.size = bo at *
      clear hA4 hg4 HR hU4
      simp only [Act.put]
      go_wp2_with (with_reducible show wpList _ _ _ ({ dst := _, op := Op.lookup 63 _ _ _, type := _, pos := _, after := _, guard := _ } :: _) _ _; refine Shut.out ?_)
      show wpList _ _ _ _ _ _
      refine wpList_lookup_own_int _ rfl _ _ 63 rfl 9 3 .i64 (Maps.string_keyed Tryd.underlying9) Tryd.underlying63 Tryd.underlying3 (Tryd.zeroValue3 _) M j dm rfl HM4.out _ (kS g.nm) rfl HK.out ?_
      intro cc hcc _
      have hb := HC.out.val _ cc hcc
      rw [HJj.out] at hb
      have hw : IntKind.i64.wrap (cc + 1) = cc + 1 := by rw [IntKind.wrap_i64]; omega
      have hwf : (Lit.int .i64 (cc + 1)).wf = true := by simp [Lit.wf, IntKind.min, IntKind.max, IntKind.signed, IntKind.bits]; omega
      have HS := Hid.of (HC.out.step (World.ownsMap.isMap HM4.out) (World.ownsMap.tidy HM4.out (Maps.string_keyed Tryd.underlying9)) g.nm.data.toList cc hb.1 (by rw [HJj.out]; exact hb.2))
      clear hcc
      simp only [Act.put, List.setIfInBounds_toArray, List.set_cons_zero, List.set_cons_succ]
      go_wp2_with (with_reducible show wpList _ _ _ ({ dst := _, op := Op.mapUpdate 63 _ _ _, type := _, pos := _, after := _, guard := _ } :: _) _ _; refine Shut.out ?_)
      show wpList _ _ _ _ _ _
      refine wpList_mapUpdate_own _ rfl _ _ _ 63 rfl 9 3 (Maps.string_keyed Tryd.underlying9) Tryd.underlying63 (plainElem Tryd.prog 3) M j dm rfl HM4.out (by simp only [maxLen]; omega) _ _ (kS g.nm) rfl rfl HK.out (.lit (.int .i64 (cc + 1))) [] (plainElem_int Tryd.underlying3 hwf) ?_
      intro w5 o5 g5
      have HO5 := Hid.of o5
      have HU5 := Hid.of (HU4.out.by g5 (fun k hk => by have := Option.some.inj hk; have := HMw.out; omega))
      clear o5 g5 hw hwf c0
      simp only [Act.put]
      go_wp2
      go_roundw
      all_goals first
        | exact ⟨j + 1, by go_num, by omega, Hid.of ⟨_, HO5.out, by rw [HT.out]; exact HS.out, HU5.out⟩⟩
        | (simp [intOf]; omega)
    · have hjz : ¬ (j : Int) < (fs.length : Int) := by omega
      rw [show fs.take j = fs from List.take_of_length_le (by omega)] at HC
      have hsz := HC.out.le
      have hse := HC.out.eq
      simp only [nmsOf, List.length_map] at hsz hse
      have HE := Hid.of (show decide (Maps.size dm < fs.length) = decide (¬ (nmsOf fs).Nodup) by
        rw [decide_eq_decide]
        rw [← hse]
        omega)
      clear hsz hse
      go_wp2_with (with_reducible show wpList _ _ _ ({ dst := _, op := Op.call { callee := Callee.builtin Builtin.len, args := _, argTypes := #[63] }, type := _, pos := _, after := _, guard := _ } :: _) _ _; refine Shut.out ?_)
      show wpList _ _ _ _ _ _
      refine wpList_len_own _ rfl _ 63 rfl 9 3 Tryd.underlying63 (plainElem Tryd.prog 3) M j dm rfl HM.out ?_
      generalize Maps.size dm = sz at *
      simp only [Act.put, List.setIfInBounds_toArray, List.set_cons_zero, List.set_cons_succ]
      go_wp2
      go_ret
      rw [← HE.out]
      exact ⟨rfl, HU.out⟩
set_option maxRecDepth 100000 in
set_option maxHeartbeats 4000000 in
theorem fit_gen (room : Nat) (a : Option Addr) (fs : List GF) (c : Nat) (w : World) (hF : FsL w a fs c) (hr : room ≤ 1099511627776) (hlen : fs.length ≤ 1000000) :
    Calls Tryd.prog 14 #[.int .i64 (room : Int), .slice a fs.length c] w fun e w' => e = .returned (.bool (decide ((fs.map fun g => g.ds.length).sum ≤ room))) ∧ Up w w' := by
  have HF := Hid.of hF
  have hcap := hF.cap
  clear hF
  go_enter Tryd.func14, Tryd.ntmps14
  go_wp2
  go_loopw [0, 6, 9] (fun v0 _ v9 wr => ∃ j r : Nat, v9 = .int .i64 (j : Int) ∧ j ≤ fs.length ∧ v0 = .int .i64 (r : Int) ∧ r ≤ room ∧ Hid (Up w wr ∧ r + ((fs.take j).map fun g => g.ds.length).sum = room)) (fun _ _ v9 _ => fs.length - (intOf v9).toNat)
  case atStart => exact ⟨0, room, rfl, by omega, rfl, by omega, Hid.of ⟨Up.refl _, by simp⟩⟩
  case round =>
    obtain ⟨j, r, rfl, hj, rfl, hrr, hQ⟩ := hrel
    have HU := Hid.of hQ.out.1
    have HE := Hid.of hQ.out.2
    clear hQ
    by_cases hjl : j < fs.length
    · have hjz : (j : Int) < (fs.length : Int) := by omega
      obtain ⟨b, off, rfl, k1, k2⟩ := (HF.out.up HU.out).cells j hjl
      have HSb := Hid.of ((HF.out.up HU.out).sb fs[j] (List.getElem_mem hjl))
      have HR := Hid.of (range2 k1 k2)
      have HT := Hid.of (show ((fs.take (j + 1)).map fun g => g.ds.length).sum = ((fs.take j).map fun g => g.ds.length).sum + fs[j].ds.length by
        rw [List.take_succ_eq_append_getElem hjl, List.map_append, List.sum_append]
        simp)
      have HLe := Hid.of (show ((fs.take (j + 1)).map fun g => g.ds.length).sum ≤ (fs.map fun g => g.ds.length).sum by
        rw [List.map_take]
        exact sum_take_le _ _)
      obtain ⟨g, hg⟩ : ∃ g, fs[j] = g := ⟨_, rfl⟩
      rw [hg] at HSb HR HT
      clear k1 k2 hg
      obtain ⟨ag, cg, hvg, hm1, hm2, _⟩ := id HSb.out
      have HVG := Hid.of hvg
      clear hvg
      go_wp2_with (with_reducible show wpList _ _ _ ({ dst := _, op := Op.indexAddr 30 _ _, type := _, pos := _, after := _, guard := _ } :: _) _ _; refine Shut.out ?_)
      show wpList _ _ _ _ _ _
      refine wpList_val7' (.pointer (some ⟨b, off + j * 2, none⟩)) rfl (exec_idxFile j hjl rfl rfl rfl) ?_
      simp only [Act.put, List.setIfInBounds_toArray, List.set_cons_zero, List.set_cons_succ]
      refine wpList_load_mid rfl _ _ rfl b (off + j * 2) rfl [.string g.nm, g.v] _ HR.out Tryd.underlying29 rfl infoFile ?_
      simp only [Act.put, List.setIfInBounds_toArray, List.set_cons_zero, List.set_cons_succ]
      go_wp2_with (with_reducible show wpList _ _ _ ({ dst := _, op := Op.store 29 _ _, type := _, pos := _, after := _, guard := _ } :: _) _ _; refine Shut.out ?_)
      show wpList _ _ _ _ _ _
      refine wpList_store_at rfl 29 _ _ rfl wr.heap.size (at_new wr 29 [.string ⟨#[]⟩, .slice none 0 0]) [.string g.nm, g.v] rfl rfl rfl infoFile (all2 rfl (by rw [HVG.out]; rfl)) ?_
      intro w4 hA4 hg4
      have hU4 := ((Up.refl wr).alloc (.cells [.string ⟨#[]⟩, .slice none 0 0].toArray 29)).by hg4 (fun g hg => by have := Option.some.inj hg; omega)
      have HU4 := Hid.of (HU.out.trans hU4)
      rw [HVG.out] at hA4
      have c1 := hA4.cell (i := 1) rfl
      obtain ⟨m, hm⟩ : ∃ m, g.ds.length = m := ⟨_, rfl⟩
      rw [hm] at c1 HT hm1
      generalize wr.heap.size = bo at *
      clear hA4 hg4 HR hU4 hm
      simp only [Act.put]
      have hmx : (m : Int) ≤ 9223372036854775807 := by simp only [maxLen] at hm2; omega
      by_cases hmr : r < m
      · have hmz : (r : Int) < (m : Int) := by omega
        have HD := Hid.of (show decide ((fs.map fun g => g.ds.length).sum ≤ room) = false by
          rw [decide_eq_false_iff_not]
          have := HLe.out; have := HT.out; have := HE.out
          omega)
        go_wp2
        go_ret
        rw [HD.out]
        exact ⟨rfl, HU4.out⟩
      · have hmz : ¬ (r : Int) < (m : Int) := by omega
        have hsub : (r : Int) - (m : Int) = ((r - m : Nat) : Int) := by omega
        have HN := Hid.of (show (r - m) + ((fs.take (j + 1)).map fun g => g.ds.length).sum = room by have := HT.out; have := HE.out; omega)
        have hrm : r - m ≤ room := by omega
        generalize r - m = r2 at *
        go_wp2
        go_roundw
        all_goals first
          | exact ⟨j + 1, r2, by go_num, by omega, rfl, by omega, Hid.of ⟨HU4.out.drew, HN.out⟩⟩
          | exact ⟨j + 1, r2, by go_num, by omega, rfl, by omega, Hid.of ⟨HU4.out, HN.out⟩⟩
          | (simp [intOf]; omega)
    · have hjz : ¬ (j : Int) < (fs.length : Int) := by omega
      rw [show fs.take j = fs from List.take_of_length_le (by omega)] at HE
      have HD := Hid.of (show decide ((fs.map fun g => g.ds.length).sum ≤ room) = true by
        rw [decide_eq_true_iff]
        have := HE.out
        omega)
      go_wp2
      go_ret
      rw [HD.out]
      exact ⟨rfl, HU.out⟩
end Go.Proofs.YtaibjeehjhlicaaDoor
