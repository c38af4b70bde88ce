import Derived.Test.YtaibjeehjhlicaaDoorYaw
import Derived.Test.YtaibjeehjhlicaaDoorYaf
namespace Go.Proofs.YtaibjeehjhlicaaDoor
open Go.RowKit Go.Shelf TextNum ModNum
abbrev d0c (room : Nat) (M : Nat) (vL vC : Value) (acts : Int) : List Value := [.int .i64 (room : Int), .int .i64 0, .bool false, .map (some M), vL, vC, .slice none 0 0, .int .i64 0, .int .i64 0, .int .i64 acts, .int .i64 0, .int .i64 0]
set_option maxRecDepth 100000 in
set_option maxHeartbeats 2000000 in
theorem laid_nil (room : Nat) (w : World) : Calls Tryd.prog 15 #[.int .i64 (room : Int), .slice none 0 0] w fun e w' => ∃ D M L, e = .returned (.pointer (some ⟨D, 0, none⟩)) ∧ At w' D 58 (d0c room M (.map (some L)) (.slice none 0 0) 0) ∧ OM w' M 0 (.map []) ∧ w.heap.size ≤ D ∧ w.heap.size ≤ M ∧ Up w w' := by
  have hmk := fun w' => run_mkMap (P := Tryd.prog) 54 9 52 Tryd.underlying54 0 w'
  have hM := World.ownsMap_made w Tryd.prog 9 rp
  have hU1 := (Up.refl w).alloc (.map #[] 0)
  have hs := alloc_size w (.map #[] 0)
  have hA := at_new (w.alloc (.map #[] 0)) 58 (d0c room w.heap.size (.map none) (.slice none 0 0) 0)
  have hU2 := hU1.alloc (.cells (d0c room w.heap.size (.map none) (.slice none 0 0) 0).toArray 58)
  have hM2 : OM _ w.heap.size 0 (.map []) := World.ownsMap.alloc hM (.cells (d0c room w.heap.size (.map none) (.slice none 0 0) 0).toArray 58)
  rw [hs] at hA
  have HA := Hid.of hA
  have HU2 := Hid.of hU2
  have HM2 := Hid.of hM2
  clear hA hU2 hM2 hM hU1
  go_enter Tryd.func15, Tryd.ntmps15
  go_wp2
  have hW : (w.alloc (.map #[] 0)).alloc (.cells (d0c room w.heap.size (.map none) (.slice none 0 0) 0).toArray 58) = (w.alloc (.map #[] 0)).alloc (.cells #[.int .i64 (room : Int), .int .i64 0, .bool false, .map (some w.heap.size), .map none, .slice none 0 0, .slice none 0 0, .int .i64 0, .int .i64 0, .int .i64 0, .int .i64 0, .int .i64 0] 58) := rfl
  rw [hW] at HA HU2 HM2
  clear hW
  generalize (w.alloc (.map #[] 0)).alloc (.cells #[.int .i64 (room : Int), .int .i64 0, .bool false, .map (some w.heap.size), .map none, .slice none 0 0, .slice none 0 0, .int .i64 0, .int .i64 0, .int .i64 0, .int .i64 0, .int .i64 0] 58) = W2 at *
  go_loop [7, 16] (fun _ v16 => v16 = .int .i64 0) (fun _ _ => 0)
  case atStart => rfl
  case round =>
    obtain rfl := hrel
    have c3 := HA.out.cell (i := 3) rfl
    have HC := Hid.of (mapsClone_walk w.heap.size 0 (.map []) W2 HM2.out)
    go_wp2_with fail
    refine HC.out.mono ?_
    rintro e w3 ⟨L, rfl, _, _, u3⟩
    have HU3 := Hid.of (HU2.out.trans u3)
    have HA3 := Hid.of (HA.out.up u3)
    have HM3 := Hid.of (HM2.out.up u3)
    have t4 := HA3.out.thaw 4
    have c4 := HA3.out.cell (i := 4) rfl
    clear u3 c3 HC
    dsimp only
    have HA4 := Hid.of (HA3.out.set 4 (.map (some L)))
    have HG4 := Hid.of (grown_at w3 (w.heap.size + 1) 4 (.map (some L)))
    go_wp2
    go_ret
    exact ⟨w.heap.size + 1, w.heap.size, L, rfl, HA4.out, World.ownsMap.kept HM3.out HG4.out (fun e => by have := Option.some.inj e; omega), by omega, by omega, HU3.out.by HG4.out (fun g hg => by have := Option.some.inj hg; omega)⟩
theorem rp_inv0 {v : Value} {ps : List MemPlace} (h : rp v = some (.lit (.bool false), ps)) : v = .pointer none := by
  unfold rp at h
  split at h
  · rfl
  · simp at h
  · cases h
end Go.Proofs.YtaibjeehjhlicaaDoor
