import Derived.Test.YtaibjeehjhlicaaGreatDoorQbe
import Derived.Laws.Externs
import Derived.Test.YtaibjeehjhlicaaGreatDoorQad
import Derived.Test.YtaibjeehjhlicaaGreatDoorQaa
import Derived.ProofKit
import Derived.OpenShut
namespace Go.Proofs.YtaibjeehjhlicaaGreatDoor
open Go.RowKit Go.Shelf TextNum ModNum
theorem run_mkMap {P : Program} (t k e : TypeId) (ht : P.underlying t = some (.map k e)) (n : Int) (w : World) : (Instr.makeMap t (some (.int .i64 n))).run P w = .ok (.map (some w.heap.size)) (w.alloc (.map #[] 0)) := by
  simp [Instr.makeMap, run_underlying ht, asInt, asIntOf]
theorem run_equalIn_map_nil {P : Program} (w : World) (d : Nat) (t k e : TypeId) (b : Nat) (h : P.underlying t = some (.map k e)) : (Op.equalIn (d + 1) t (.map (some b)) (.map none)).run P w = .ok false w := by
  simp [Op.equalIn, run_underlying h]
theorem run_eql_map_nil {P : Program} (t k e : TypeId) (ht : P.underlying t = some (.map k e)) (b : Nat) (w : World) : (binOp .eql t (.map (some b)) (.map none)).run P w = .ok (.bool false) w := by
  simp only [binOp]
  simp [Op.equal, Op.maxDepth, run_equalIn_map_nil w 9999 t k e b ht]
theorem run_mclone {P : Program} {f : FuncId} {fn : Func} (hf : P.funcs[f]? = some fn) (hname : (fn.name == "runtime.NumGoroutine") = false) (hb : fn.body.isNone = true) (hn : Extern.findNext fn = none) (he : Extern.find fn = some Extern.MapsClone.clone)
    (t : TypeId) (M : Nat) (es : Array MapEntry) (cl : Nat) (w : World) (hM : w.heap[M]? = some (.map es cl)) : (callFunc f #[.iface t (.map (some M))]).run P w = .ok (.value (.iface t (.map (some w.heap.size)))) (w.alloc (.map es cl)) := by
  rw [run_callFunc_extern hf hname hb hn he]
  have hc : Extern.MapsClone.clone #[.iface t (.map (some M))] = (do
    let .map entries clock ← getObj M | stuck "maps.clone: a map expected"
    pure (.iface t (.map (some (← newObj (.map entries clock)))))) := rfl
  rw [hc]
  have hg : (getObj M).run P w = .ok (.map es cl) w := by simp [getObj, Sem.run, hM]
  simp [hg]
theorem run_tassert {P : Program} (t xT k e : TypeId) (v : Value) (h : P.underlying t = some (.map k e)) (w : World) : (Instr.typeAssert (.iface t v) xT t false).run P w = .ok v w := by
  simp [Instr.typeAssert, run_underlying h]
set_option maxRecDepth 100000 in
set_option maxHeartbeats 1000000 in
theorem namedTwice_nil (w : World) : Calls Tryz.prog 94 #[.slice none 0 0] w fun e w' => e = .returned (.bool false) ∧ Up w w' := by
  have hmk := fun w' => run_mkMap (P := Tryz.prog) 176 9 3 Tryz.underlying176 0 w'
  have HM := Hid.of (World.ownsMap_made w Tryz.prog 9 rp)
  have HU := Hid.of ((Up.refl w).alloc (.map #[] 0))
  go_enter Tryz.func94, Tryz.ntmps94
  go_wp2
  have hlen := World.ownsMap.len HM.out (t := 176) (e := 3) Tryz.underlying176 3
  generalize w.alloc (.map #[] 0) = W1 at *
  go_loop [5, 11] (fun _ v11 => v11 = .int .i64 0) (fun _ _ => 0)
  case atStart => rfl
  case round =>
    obtain rfl := hrel
    go_wp2
    go_ret
    exact ⟨rfl, HU.out⟩
set_option maxRecDepth 100000 in
set_option maxHeartbeats 1000000 in
theorem fit_nil (room : Int) (w : World) : Calls Tryz.prog 95 #[.int .i64 room, .slice none 0 0] w fun e w' => e = .returned (.bool true) ∧ Up w w' := by
  go_enter Tryz.func95, Tryz.ntmps95
  go_wp2
  go_loop [6, 9] (fun _ v9 => v9 = .int .i64 0) (fun _ _ => 0)
  case atStart => rfl
  case round =>
    obtain rfl := hrel
    go_wp2
    go_ret
    exact ⟨rfl, Up.refl _⟩
set_option maxRecDepth 100000 in
set_option maxHeartbeats 1000000 in
theorem mapsClone_walk (M n : Nat) (D : DataW Unit) (w : World) (hM : OM w M n D) : Calls Tryz.prog 63 #[.map (some M)] w fun e w' => ∃ L, e = .returned (.map (some L)) ∧ w.heap.size ≤ L ∧ OM w' L n D ∧ Up w w' := by
  have heq := fun w' => run_eql_map_nil (P := Tryz.prog) 81 9 88 Tryz.underlying81 M w'
  obtain ⟨es, cl, hb, hr⟩ := hM
  have HB := Hid.of hb
  have HR := Hid.of hr
  have hcl := run_mclone (P := Tryz.prog) (f := 102) Tryz.func102 (by kernel_rfl) (by kernel_rfl) (by kernel_rfl) (by kernel_rfl) 81 M es cl w hb
  have HU := Hid.of ((Up.refl w).alloc (.map es cl))
  have HN := Hid.of (show (w.alloc (.map es cl)).heap[w.heap.size]? = some (.map es cl) from heap_alloc_new w _)
  clear hb hr
  have hta := fun w' => run_tassert (P := Tryz.prog) 81 20 9 88 (.map (some w.heap.size)) Tryz.underlying81 w'
  go_enter Tryz.func63, Tryz.ntmps63
  go_wp2
  go_ret
  exact ⟨_, rfl, Nat.le_refl _, ⟨es, cl, HN.out, HR.out⟩, HU.out⟩
end Go.Proofs.YtaibjeehjhlicaaGreatDoor
namespace Go.Proofs.YtaibjeehjhlicaaGreatDoor
open Go.RowKit Go.Shelf TextNum ModNum
abbrev d0c (room : Nat) (M : Nat) (vL vC : Value) (acts : Int) : List Value := [.int .i64 (room : Int), .int .i64 0, .bool false, .map (some M), vL, vC, .slice none 0 0, .int .i64 0, .int .i64 0, .int .i64 acts, .int .i64 0, .int .i64 0]
set_option maxRecDepth 100000 in
set_option maxHeartbeats 2000000 in
theorem laid_nil (room : Nat) (w : World) : Calls Tryz.prog 64 #[.int .i64 (room : Int), .slice none 0 0] w fun e w' => ∃ D M L, e = .returned (.pointer (some ⟨D, 0, none⟩)) ∧ At w' D 85 (d0c room M (.map (some L)) (.slice none 0 0) 0) ∧ OM w' M 0 (.map []) ∧ w.heap.size ≤ D ∧ w.heap.size ≤ M ∧ Up w w' := by
  have hmk := fun w' => run_mkMap (P := Tryz.prog) 81 9 88 Tryz.underlying81 0 w'
  have hM := World.ownsMap_made w Tryz.prog 9 rp
  have hU1 := (Up.refl w).alloc (.map #[] 0)
  have hs := alloc_size w (.map #[] 0)
  have hA := at_new (w.alloc (.map #[] 0)) 85 (d0c room w.heap.size (.map none) (.slice none 0 0) 0)
  have hU2 := hU1.alloc (.cells (d0c room w.heap.size (.map none) (.slice none 0 0) 0).toArray 85)
  have hM2 : OM _ w.heap.size 0 (.map []) := World.ownsMap.alloc hM (.cells (d0c room w.heap.size (.map none) (.slice none 0 0) 0).toArray 85)
  rw [hs] at hA
  have HA := Hid.of hA
  have HU2 := Hid.of hU2
  have HM2 := Hid.of hM2
  clear hA hU2 hM2 hM hU1
  go_enter Tryz.func64, Tryz.ntmps64
  go_wp2
  have hW : (w.alloc (.map #[] 0)).alloc (.cells (d0c room w.heap.size (.map none) (.slice none 0 0) 0).toArray 85) = (w.alloc (.map #[] 0)).alloc (.cells #[.int .i64 (room : Int), .int .i64 0, .bool false, .map (some w.heap.size), .map none, .slice none 0 0, .slice none 0 0, .int .i64 0, .int .i64 0, .int .i64 0, .int .i64 0, .int .i64 0] 85) := rfl
  rw [hW] at HA HU2 HM2
  clear hW
  generalize (w.alloc (.map #[] 0)).alloc (.cells #[.int .i64 (room : Int), .int .i64 0, .bool false, .map (some w.heap.size), .map none, .slice none 0 0, .slice none 0 0, .int .i64 0, .int .i64 0, .int .i64 0, .int .i64 0, .int .i64 0] 85) = W2 at *
  go_loop [7, 16] (fun _ v16 => v16 = .int .i64 0) (fun _ _ => 0)
  case atStart => rfl
  case round =>
    obtain rfl := hrel
    have c3 := HA.out.cell (i := 3) rfl
    have HC := Hid.of (mapsClone_walk w.heap.size 0 (.map []) W2 HM2.out)
    go_wp2_with fail
    refine HC.out.mono ?_
    rintro e w3 ⟨L, rfl, _, _, u3⟩
    have HU3 := Hid.of (HU2.out.trans u3)
    have HA3 := Hid.of (HA.out.up u3)
    have HM3 := Hid.of (HM2.out.up u3)
    have t4 := HA3.out.thaw 4
    have c4 := HA3.out.cell (i := 4) rfl
    clear u3 c3 HC
    dsimp only
    have HA4 := Hid.of (HA3.out.set 4 (.map (some L)))
    have HG4 := Hid.of (grown_at w3 (w.heap.size + 1) 4 (.map (some L)))
    go_wp2
    go_ret
    exact ⟨w.heap.size + 1, w.heap.size, L, rfl, HA4.out, World.ownsMap.kept HM3.out HG4.out (fun e => by have := Option.some.inj e; omega), by omega, by omega, HU3.out.by HG4.out (fun g hg => by have := Option.some.inj hg; omega)⟩
set_option maxRecDepth 100000 in
set_option maxHeartbeats 2000000 in
theorem New_walk (room : Nat) (hr : room ≤ 4000) (w : World) : Calls Tryz.prog 35 #[.int .i64 (room : Int)] w fun e w' => ∃ D M L, e = .returned (.tuple #[.pointer (some ⟨D, 0, none⟩), .int .i64 0]) ∧ At w' D 85 (d0c room M (.map (some L)) (.slice none 0 0) 0) ∧ OM w' M 0 (.map []) ∧ w.heap.size ≤ D ∧ w.heap.size ≤ M ∧ Up w w' := by
  have HL : Hid (Calls Tryz.prog 50 #[.int .i64 (room : Int), .slice none 0 0] w fun e w' => ∃ D M L, e = .returned (.tuple #[.pointer (some ⟨D, 0, none⟩), .int .i64 0]) ∧ At w' D 85 (d0c room M (.map (some L)) (.slice none 0 0) 0) ∧ OM w' M 0 (.map []) ∧ w.heap.size ≤ D ∧ w.heap.size ≤ M ∧ Up w w') := by
    have h1 : ¬ (room : Int) < 0 := by omega
    have h2 : ¬ (1099511627776 : Int) < (room : Int) := by omega
    have HN := Hid.of (namedTwice_nil w)
    have HF := fun w' => Hid.of (fit_nil room w')
    have HL := fun w' => Hid.of (laid_nil room w')
    unfold Hid
    go_enter Tryz.func50, Tryz.ntmps50
    go_wp2
    go_loop [7, 16] (fun _ v16 => v16 = .int .i64 0) (fun _ _ => 0)
    case atStart => rfl
    case round =>
      obtain rfl := hrel
      go_wp2_with fail
      refine HN.out.mono ?_
      rintro e w1 ⟨rfl, u1⟩
      have HU1 := Hid.of u1
      clear u1 HN
      dsimp only
      go_wp2_with fail
      refine (HF w1).out.mono ?_
      rintro e w2 ⟨rfl, u2⟩
      have HU2 := Hid.of (HU1.out.trans u2)
      clear u2 HF HU1
      dsimp only
      go_wp2_with fail
      refine (HL w2).out.mono ?_
      rintro e w3 ⟨D, M, L, rfl, a3, m3, b1, b2, u3⟩
      have HP := Hid.of (And.intro a3 (And.intro m3 (And.intro (Nat.le_trans HU2.out.size b1) (And.intro (Nat.le_trans HU2.out.size b2) (HU2.out.trans u3)))))
      clear a3 m3 b1 b2 u3 HL
      dsimp only
      go_wp2
      go_ret2
      exact ⟨D, M, L, rfl, HP.out⟩
  go_enter Tryz.func35, Tryz.ntmps35
  go_wp2_with fail
  refine HL.out.mono ?_
  rintro e w3 ⟨D, M, L, rfl, hP⟩
  have HP := Hid.of hP
  clear hP HL
  dsimp only
  go_wp2
  go_ret2
  exact ⟨D, M, L, rfl, HP.out⟩
theorem rp_inv0 {v : Value} {ps : List MemPlace} (h : rp v = some (.lit (.bool false), ps)) : v = .pointer none := by
  unfold rp at h
  split at h
  · rfl
  · simp at h
  · cases h
set_option maxRecDepth 100000 in
set_option maxHeartbeats 1000000 in
theorem release_none (D M n : Nat) (x0 x1 x2 x4 x5 x6 x7 x8 x9 x10 x11 : Value) (w : World) (hA : At w D 85 [x0, x1, x2, .map (some M), x4, x5, x6, x7, x8, x9, x10, x11]) (hM : OM w M n (.map [])) :
    Calls Tryz.prog 53 #[.pointer (some ⟨D, 0, none⟩), .string ⟨#[102]⟩] w fun e w' => e = .returned (.tuple #[]) ∧ w' = w := by
  have c3 := hA.cell (i := 3) rfl
  have HM := Hid.of hM
  clear hA hM
  go_enter Tryz.func53, Tryz.ntmps53
  go_wp2_with (with_reducible show wpList _ _ _ ({ dst := _, op := Op.lookup 81 _ _ _, type := _, pos := _, after := _, guard := _ } :: _) _ _; refine Shut.out ?_)
  show wpList _ _ _ _ _ _
  refine wpList_lookup_own_ok _ rfl _ _ 81 rfl 9 88 (Maps.string_keyed Tryz.underlying9) Tryz.underlying81 rp (Tryz.zeroValue88 _) (.lit (.bool false)) [] rfl M n (.map []) rfl HM.out _ fk rfl keyF ?_
  intro v ps hv
  obtain rfl := rp_inv0 hv
  rw [show Maps.has (.map [] : DataW Unit) fk = false from rfl]
  clear hv
  simp only [Act.put, List.setIfInBounds_toArray, List.set_cons_zero, List.set_cons_succ]
  go_wp2
  go_end0
  exact ⟨rfl, rfl⟩
set_option maxRecDepth 100000 in
set_option maxHeartbeats 1000000 in
theorem Create11_walk (M F b1 b2 : Nat) (w : World) (hM : OM w M 0 (.map [])) (h1 : At w b1 88 [.pointer (some ⟨F, 0, none⟩)]) (h2 : At w b2 9 [.string ⟨#[102]⟩]) :
    Calls Tryz.prog 55 #[.map (some M), .pointer (some ⟨b1, 0, none⟩), .pointer (some ⟨b2, 0, none⟩)] w fun e w' => e = .returned (.tuple #[]) ∧ OM w' M 1 (D1 F) ∧ w.grownBy w' (some M) := by
  have c1 := h1.cell (i := 0) rfl
  have c2 := h2.cell (i := 0) rfl
  have HM := Hid.of hM
  clear hM h1 h2
  go_enter Tryz.func55, Tryz.ntmps55
  go_wp2_with (with_reducible show wpList _ _ _ ({ dst := _, op := Op.mapUpdate 81 _ _ _, type := _, pos := _, after := _, guard := _ } :: _) _ _; refine Shut.out ?_)
  show wpList _ _ _ _ _ _
  refine wpList_mapUpdate_own _ rfl _ _ _ 81 rfl 9 88 (Maps.string_keyed Tryz.underlying9) Tryz.underlying81 rp M 0 (.map []) rfl HM.out (by decide) _ _ fk rfl rfl keyF (fd F) [] rfl ?_
  intro w1 o1 g1
  have HO := Hid.of (show OM w1 M 1 (D1 F) from o1)
  have HG := Hid.of g1
  clear o1 g1
  simp only [Act.put]
  go_wp2
  go_end0
  exact ⟨rfl, HO.out, HG.out⟩
end Go.Proofs.YtaibjeehjhlicaaGreatDoor
namespace Go.Proofs.YtaibjeehjhlicaaGreatDoor
open Go.ChangeShapes Go.WideShapes Go.ChangeAt Go.WideMaps Go.WideElems Go.RowKit

theorem Tryz.own : ownKnob Tryz.prog.godebug = none := by kernel_rfl
variable {H : Type} {enc : TypeId × Value → H} {P : Program}
/-- as post_of_same, with 'not frozen' asked of what lay ahead of the call alone -/
theorem post_of_old {f : Func} {s : ChangeSpec} {apart fresh handsOn again : Bool} {W W' : World} {args : Array Value} {v : Value} {ds gs : List (DataW H)} {before pa pv : List MemPlace}
    (hW : DataW.Whole enc P f.params.toList s.vars apart W args.toList ds gs before)
    (hres : ∀ (b : Nat) (sp : Nat → Bool) (hd : Bool), DataW.TrodAll enc P W' b sp hd f.resultTypes.toList (v.resultList f.resultTypes.size) (s.fn H (ds ++ gs)).results [])
    (hargs : ∀ sp : Nat → Bool, (∀ p ∈ before, sp p.block = true) → DataW.TrodAll enc P W' 0 sp true f.params.toList args.toList (s.fn H (ds ++ gs)).args pa)
    (hvars : ∀ sp : Nat → Bool, (∀ p ∈ before, sp p.block = true) → DataW.TrodVars enc P W' sp s.vars (s.fn H (ds ++ gs)).vars pv)
    (hps : before = pa ++ pv) (hk : W.keptBut W' (· ∈ before)) (hfz : ∀ a : Addr, a.block < W.heap.size → W'.frozen? a = W.frozen? a)
    (hok : ∀ (j : Nat) (t : TypeId) (r : Value), f.resultTypes[j]? = some t → (v.resultList f.resultTypes.size)[j]? = some r → Value.okWide P W' .any 0 t r) :
    s.post enc P f apart fresh handsOn again W args v W' := by
  have hlt := fun p hp => hW.lt p hp
  have hin : ∀ p ∈ before, (fun b => decide (b < W.heap.size)) p.block = true := fun p hp => by simpa using hlt p hp
  have hW2 := hW
  obtain ⟨_, _, _, _, _, hz, hn⟩ := hW2
  refine ⟨ds, gs, before, [], pa, pv, hW, hres _ _ _, hargs _ hin, hvars _ hin, World.keptBut_mono (fun p hp => ⟨hp, Or.inr (by rw [hps, List.mem_append] at hp; exact hp)⟩) hk, fun _ => ?_⟩
  refine ⟨hok, _, _, ([] ++ pa) ++ pv, ⟨[] ++ pa, pv, trodAll_append (hargs _ (fun _ _ => rfl)) (hres _ _ _), hvars _ (fun _ _ => rfl), rfl, fun b off hp => ?_, fun ha => ?_⟩, fun p hp _ => ?_⟩
  · have hb : MemPlace.cell b off ∈ before := by rw [hps]; simpa using hp
    rw [hfz ⟨b, off, none⟩ (hlt _ hb)]
    exact hz b off hb
  · have := hn ha
    rw [hps] at this
    simpa using this
  · rw [hps]; simpa using hp
end Go.Proofs.YtaibjeehjhlicaaGreatDoor
