import Derived.Test.YtaibjeehjhlicaaDoorDb
import Derived.Deep.RegionWith
import Derived.Lib.SliceRun
namespace Go.Proofs.YtaibjeehjhlicaaDoor
open Go.RowKit TextNum
theorem own_empty (w : World) : Ow (w.alloc (.cells #[] 5)) w.heap.size (.slice (some ⟨w.heap.size, 0, none⟩) 0 0) [] :=
  ⟨rfl, .inr ⟨w.heap.size, 0, #[], rfl, Nat.le_refl _, heap_alloc_new w _, Nat.le_refl _, by simp [maxLen], rfl, rfl⟩⟩
theorem up_grownBy {a b c : World} {row : Option Nat} (h : Up a b) (k : b.grownBy c row) (hr : ∀ g, row = some g → a.heap.size ≤ g) : Up a c :=
  ⟨k.os.trans h.os, k.tape.trans h.tape, k.output.trans h.output, Nat.le_trans h.size k.size, fun j hj => (k.block j (Nat.lt_of_lt_of_le hj h.size) (fun e => by have := hr j e.symm; omega)).trans (h.block j hj)⟩
theorem grownBy_undrew {w w' : World} {r : Option Nat} (h : w.drew.grownBy w' r) : w.grownBy w' r := ⟨h.os, h.tape, h.output, h.size, h.block⟩
set_option maxRecDepth 100000 in
set_option maxHeartbeats 1000000 in
theorem Clone_walk (v : Value) (ds : List UInt8) (w : World) (hd : Sb w v ds) (hl : ds.length ≤ 140737488355328) :
    Calls Tryd.prog 17 #[v] w fun e w' => ∃ v', e = .returned v' ∧ Ow w' w.heap.size v' ds ∧ Up w w' := by
  obtain ⟨i0, hi, hz0, hz1, hz2⟩ := info_parts Tryd.infoU8
  obtain ⟨a, c, rfl, h1, h2, h3, h4⟩ := hd
  cases a with
  | none =>
    obtain ⟨rfl, rfl⟩ := h3 rfl
    clear h4 h3 h2 h1
    have heq : ∀ w', (binOp .eql 27 (.slice none 0 0) (.slice none 0 0)).run Tryd.prog w' = .ok (.bool true) w' := fun w' => Go.Lib.run_eql_slice_nil w' 27 5 none 0 0 0 0 Tryd.underlying27
    go_enter Tryd.func17, Tryd.ntmps17
    go_wp2
    go_ret
    exact ⟨_, rfl, World.ownsRow_nil _ _ _ _, Up.refl _⟩
  | some ad =>
    have HS := Hid.of (h4 ad rfl).2
    have HO := Hid.of (own_empty w)
    have HU := Hid.of ((Up.refl w).alloc (.cells #[] 5))
    clear h4 h3
    have heq : ∀ w', (binOp .eql 27 (.slice (some ad) ds.length c) (.slice none 0 0)).run Tryd.prog w' = .ok (.bool false) w' := fun w' => Go.Lib.run_eql_slice_nil w' 27 5 (some ad) ds.length c 0 0 Tryd.underlying27
    go_enter Tryd.func17, Tryd.ntmps17
    go_wp2_with (with_reducible show wpList _ _ _ ({ dst := _, op := Op.call { callee := Callee.builtin Builtin.append, args := _, argTypes := _ }, type := _, pos := _, after := _, guard := _ } :: _) _ _; refine Shut.out ?_)
    show wpList _ _ _ _ _ _
    refine wpList_append_frs rfl _ _ 27 rfl w.heap.size 5 i0 (.int .u8 0) 1 Tryd.underlying27 hi hz0 hz1 hz2 rfl _ 0 [] rfl HO.out ad ds.length c (cb ds) rfl (by rw [cb_length]; omega) (fun j u hj => HU.out.cell (HS.out j u hj)) (cb_one ds) (by simp only [maxLen]; omega) (by omega) (by have := HU.out.size; exact this) ?_
    intro v1 w1 o1 g1 f1
    have HO1 := Hid.of (show Ow w1 w.heap.size v1 ds by unfold Ow; simpa using o1)
    have HU1 := Hid.of (up_grownBy HU.out g1 (fun g hg => by have e : w.heap.size = g := Option.some.inj hg; omega))
    clear o1 g1 f1
    simp only [Act.put, List.setIfInBounds_toArray, List.set_cons_zero, List.set_cons_succ]
    go_wp2
    go_ret
    exact ⟨_, rfl, HO1.out, HU1.out⟩
set_option maxRecDepth 100000 in
set_option maxHeartbeats 1000000 in
theorem copied_walk (v : Value) (ds : List UInt8) (w : World) (hd : Sb w v ds) (hl : ds.length ≤ 140737488355328) :
    Calls Tryd.prog 25 #[v] w fun e w' => ∃ v', e = .returned v' ∧ Ow w' w.heap.size v' ds ∧ Up w w' := by
  obtain ⟨i0, hi, hz0, hz1, hz2⟩ := info_parts Tryd.infoU8
  obtain ⟨a, c, rfl, h1, h2, h3, h4⟩ := hd
  cases a with
  | none =>
    obtain ⟨rfl, rfl⟩ := h3 rfl
    clear h4 h3 h2 h1
    go_enter Tryd.func25, Tryd.ntmps25
    go_wp2
    go_ret
    exact ⟨_, rfl, World.ownsRow_nil _ _ _ _, Up.refl _⟩
  | some ad =>
    have HS := Hid.of (h4 ad rfl).2
    clear h4 h3
    go_enter Tryd.func25, Tryd.ntmps25
    go_wp2_with (with_reducible show wpList _ _ _ ({ dst := _, op := Op.call { callee := Callee.builtin Builtin.append, args := _, argTypes := _ }, type := _, pos := _, after := _, guard := _ } :: _) _ _; refine Shut.out ?_)
    show wpList _ _ _ _ _ _
    refine wpList_append_frs rfl _ _ 27 rfl w.heap.size 5 i0 (.int .u8 0) 1 Tryd.underlying27 hi hz0 hz1 hz2 rfl _ 0 [] rfl (World.ownsRow_nil _ _ _ _) ad ds.length c (cb ds) rfl (by rw [cb_length]; omega) HS.out (cb_one ds) (by simp only [maxLen]; omega) (by omega) (Nat.le_refl _) ?_
    intro v1 w1 o1 g1 f1
    have HO1 := Hid.of (show Ow w1 w.heap.size v1 ds by unfold Ow; simpa using o1)
    have HU1 := Hid.of (up_grownBy (Up.refl w) g1 (fun g hg => by cases hg))
    clear o1 g1 f1
    simp only [Act.put, List.setIfInBounds_toArray, List.set_cons_zero, List.set_cons_succ]
    go_wp2
    go_ret
    exact ⟨_, rfl, HO1.out, HU1.out⟩
end Go.Proofs.YtaibjeehjhlicaaDoor
