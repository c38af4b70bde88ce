import Derived.Test.YtaibjeehjhlicaaDoorYad
import Derived.Laws.Externs
namespace Go.Proofs.YtaibjeehjhlicaaDoor
open Go.RowKit Go.Shelf TextNum ModNum
theorem run_mkMap {P : Program} (t k e : TypeId) (ht : P.underlying t = some (.map k e)) (n : Int) (w : World) : (Instr.makeMap t (some (.int .i64 n))).run P w = .ok (.map (some w.heap.size)) (w.alloc (.map #[] 0)) := by
  simp [Instr.makeMap, run_underlying ht, asInt, asIntOf]
theorem run_equalIn_map_nil {P : Program} (w : World) (d : Nat) (t k e : TypeId) (b : Nat) (h : P.underlying t = some (.map k e)) : (Op.equalIn (d + 1) t (.map (some b)) (.map none)).run P w = .ok false w := by
  simp [Op.equalIn, run_underlying h]
theorem run_eql_map_nil {P : Program} (t k e : TypeId) (ht : P.underlying t = some (.map k e)) (b : Nat) (w : World) : (binOp .eql t (.map (some b)) (.map none)).run P w = .ok (.bool false) w := by
  simp only [binOp]
  simp [Op.equal, Op.maxDepth, run_equalIn_map_nil w 9999 t k e b ht]
theorem run_mclone {P : Program} {f : FuncId} {fn : Func} (hf : P.funcs[f]? = some fn) (hname : (fn.name == "runtime.NumGoroutine") = false) (hb : fn.body.isNone = true) (hn : Extern.findNext fn = none) (he : Extern.find fn = some Extern.MapsClone.clone)
    (t : TypeId) (M : Nat) (es : Array MapEntry) (cl : Nat) (w : World) (hM : w.heap[M]? = some (.map es cl)) : (callFunc f #[.iface t (.map (some M))]).run P w = .ok (.value (.iface t (.map (some w.heap.size)))) (w.alloc (.map es cl)) := by
  rw [run_callFunc_extern hf hname hb hn he]
  have hc : Extern.MapsClone.clone #[.iface t (.map (some M))] = (do
    let .map entries clock ← getObj M | stuck "maps.clone: a map expected"
    pure (.iface t (.map (some (← newObj (.map entries clock)))))) := rfl
  rw [hc]
  have hg : (getObj M).run P w = .ok (.map es cl) w := by simp [getObj, Sem.run, hM]
  simp [hg]
theorem run_tassert {P : Program} (t xT k e : TypeId) (v : Value) (h : P.underlying t = some (.map k e)) (w : World) : (Instr.typeAssert (.iface t v) xT t false).run P w = .ok v w := by
  simp [Instr.typeAssert, run_underlying h]
set_option maxRecDepth 100000 in
set_option maxHeartbeats 1000000 in
theorem namedTwice_nil (w : World) : Calls Tryd.prog 13 #[.slice none 0 0] w fun e w' => e = .returned (.bool false) ∧ Up w w' := by
  have hmk := fun w' => run_mkMap (P := Tryd.prog) 63 9 3 Tryd.underlying63 0 w'
  have HM := Hid.of (World.ownsMap_made w Tryd.prog 9 rp)
  have HU := Hid.of ((Up.refl w).alloc (.map #[] 0))
  go_enter Tryd.func13, Tryd.ntmps13
  go_wp2
  have hlen := World.ownsMap.len HM.out (t := 63) (e := 3) Tryd.underlying63 3
  generalize w.alloc (.map #[] 0) = W1 at *
  go_loop [5, 11] (fun _ v11 => v11 = .int .i64 0) (fun _ _ => 0)
  case atStart => rfl
  case round =>
    obtain rfl := hrel
    go_wp2
    go_ret
    exact ⟨rfl, HU.out⟩
set_option maxRecDepth 100000 in
set_option maxHeartbeats 1000000 in
theorem fit_nil (room : Int) (w : World) : Calls Tryd.prog 14 #[.int .i64 room, .slice none 0 0] w fun e w' => e = .returned (.bool true) ∧ Up w w' := by
  go_enter Tryd.func14, Tryd.ntmps14
  go_wp2
  go_loop [6, 9] (fun _ v9 => v9 = .int .i64 0) (fun _ _ => 0)
  case atStart => rfl
  case round =>
    obtain rfl := hrel
    go_wp2
    go_ret
    exact ⟨rfl, Up.refl _⟩
set_option maxRecDepth 100000 in
set_option maxHeartbeats 1000000 in
theorem mapsClone_walk (M n : Nat) (D : DataW Unit) (w : World) (hM : OM w M n D) : Calls Tryd.prog 22 #[.map (some M)] w fun e w' => ∃ L, e = .returned (.map (some L)) ∧ w.heap.size ≤ L ∧ OM w' L n D ∧ Up w w' := by
  have heq := fun w' => run_eql_map_nil (P := Tryd.prog) 54 9 52 Tryd.underlying54 M w'
  obtain ⟨es, cl, hb, hr⟩ := hM
  have HB := Hid.of hb
  have HR := Hid.of hr
  have hcl := run_mclone (P := Tryd.prog) (f := 27) Tryd.func27 (by kernel_rfl) (by kernel_rfl) (by kernel_rfl) (by kernel_rfl) 54 M es cl w hb
  have HU := Hid.of ((Up.refl w).alloc (.map es cl))
  have HN := Hid.of (show (w.alloc (.map es cl)).heap[w.heap.size]? = some (.map es cl) from heap_alloc_new w _)
  clear hb hr
  have hta := fun w' => run_tassert (P := Tryd.prog) 54 20 9 52 (.map (some w.heap.size)) Tryd.underlying54 w'
  go_enter Tryd.func22, Tryd.ntmps22
  go_wp2
  go_ret
  exact ⟨_, rfl, Nat.le_refl _, ⟨es, cl, HN.out, HR.out⟩, HU.out⟩
end Go.Proofs.YtaibjeehjhlicaaDoor
