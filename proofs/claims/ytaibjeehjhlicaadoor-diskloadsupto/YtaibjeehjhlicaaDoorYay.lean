import Derived.Test.YtaibjeehjhlicaaDoorYav
import Derived.Test.YtaibjeehjhlicaaDoorYax
import Derived.Test.YtaibjeehjhlicaaDoorPo
import Derived.Lib.ConvBytes
namespace Go.Proofs.YtaibjeehjhlicaaDoor
open Go.RowKit Go.Shelf TextNum ModNum
set_option maxRecDepth 100000 in
set_option maxHeartbeats 2000000 in
theorem laid_nil2 (room : Nat) (w : World) : Calls Tryd.prog 15 #[.int .i64 (room : Int), .slice none 0 0] w fun e w' => ∃ D M L, e = .returned (.pointer (some ⟨D, 0, none⟩)) ∧ At w' D 58 (d0c room M (.map (some L)) (.slice none 0 0) 0) ∧ OM w' M 0 (.map []) ∧ OM w' L 0 (.map []) ∧ w.heap.size ≤ D ∧ w.heap.size ≤ M ∧ w.heap.size ≤ L ∧ M ≠ L ∧ Up w w' := by
  have hmk := fun w' => run_mkMap (P := Tryd.prog) 54 9 52 Tryd.underlying54 0 w'
  have hM := World.ownsMap_made w Tryd.prog 9 rp
  have hU1 := (Up.refl w).alloc (.map #[] 0)
  have hs := alloc_size w (.map #[] 0)
  have hA := at_new (w.alloc (.map #[] 0)) 58 (d0c room w.heap.size (.map none) (.slice none 0 0) 0)
  have hU2 := hU1.alloc (.cells (d0c room w.heap.size (.map none) (.slice none 0 0) 0).toArray 58)
  have hM2 : OM _ w.heap.size 0 (.map []) := World.ownsMap.alloc hM (.cells (d0c room w.heap.size (.map none) (.slice none 0 0) 0).toArray 58)
  rw [hs] at hA
  have HA := Hid.of hA
  have HU2 := Hid.of hU2
  have HM2 := Hid.of hM2
  have HSz := Hid.of (show ((w.alloc (.map #[] 0)).alloc (.cells (d0c room w.heap.size (.map none) (.slice none 0 0) 0).toArray 58)).heap.size = w.heap.size + 1 + 1 by rw [alloc_size, hs])
  clear hA hU2 hM2 hM hU1
  go_enter Tryd.func15, Tryd.ntmps15
  go_wp2
  have hW : (w.alloc (.map #[] 0)).alloc (.cells (d0c room w.heap.size (.map none) (.slice none 0 0) 0).toArray 58) = (w.alloc (.map #[] 0)).alloc (.cells #[.int .i64 (room : Int), .int .i64 0, .bool false, .map (some w.heap.size), .map none, .slice none 0 0, .slice none 0 0, .int .i64 0, .int .i64 0, .int .i64 0, .int .i64 0, .int .i64 0] 58) := rfl
  rw [hW] at HA HU2 HM2 HSz
  clear hW
  generalize (w.alloc (.map #[] 0)).alloc (.cells #[.int .i64 (room : Int), .int .i64 0, .bool false, .map (some w.heap.size), .map none, .slice none 0 0, .slice none 0 0, .int .i64 0, .int .i64 0, .int .i64 0, .int .i64 0, .int .i64 0] 58) = W2 at *
  go_loop [7, 16] (fun _ v16 => v16 = .int .i64 0) (fun _ _ => 0)
  case atStart => rfl
  case round =>
    obtain rfl := hrel
    have c3 := HA.out.cell (i := 3) rfl
    have HC := Hid.of (mapsClone_walk w.heap.size 0 (.map []) W2 HM2.out)
    go_wp2_with fail
    refine HC.out.mono ?_
    rintro e w3 ⟨L, rfl, l3, ml3, u3⟩
    have HU3 := Hid.of (HU2.out.trans u3)
    have HA3 := Hid.of (HA.out.up u3)
    have HM3 := Hid.of (HM2.out.up u3)
    have HML := Hid.of ml3
    have hs2 : W2.heap.size = w.heap.size + 1 + 1 := HSz.out
    have hl3 : w.heap.size + 1 + 1 ≤ L := by omega
    have t4 := HA3.out.thaw 4
    have c4 := HA3.out.cell (i := 4) rfl
    clear u3 c3 HC ml3 l3 hs2
    dsimp only
    have HA4 := Hid.of (HA3.out.set 4 (.map (some L)))
    have HG4 := Hid.of (grown_at w3 (w.heap.size + 1) 4 (.map (some L)))
    go_wp2
    go_ret
    exact ⟨w.heap.size + 1, w.heap.size, L, rfl, HA4.out, World.ownsMap.kept HM3.out HG4.out (fun e => by have := Option.some.inj e; omega), World.ownsMap.kept HML.out HG4.out (fun e => by have := Option.some.inj e; omega), by omega, by omega, by omega, by omega, HU3.out.by HG4.out (fun g hg => by have := Option.some.inj hg; omega)⟩
/-- a new disk -/
abbrev nwS (room M L : Nat) : DD := ⟨room, M, L, 0, 0, 0, .map [], .map [], fun _ => none, .slice none 0 0, .slice none 0 0, [], [], [], 0, 0, 0, 0, false⟩
theorem conv_sb2 {w : World} {v : Value} {l : List UInt8} (h : Sb w v l) : (convert 27 9 v).run Tryd.prog w = .ok (.string ⟨l.toArray⟩) w := by
  obtain ⟨a, c, rfl, _, _, h3, h4⟩ := h
  cases a with
  | none =>
    obtain ⟨rfl, rfl⟩ := h3 rfl
    exact run_convert_bytes_nil w 27 5 Tryd.underlying27 Tryd.underlying5 _ _ 9 Tryd.underlying9
  | some ad =>
    exact run_convert_bytes_back w 27 9 5 ad c l Tryd.underlying27 Tryd.underlying5 Tryd.underlying9 (fun j hj => (h4 ad rfl).2 j _ (cb_get hj))
/-- the name of file number k -/
def ltr (k : Nat) : List UInt8 := [102, UInt8.ofNat (97 + k / 26 % 26), UInt8.ofNat (97 + k % 26)]
theorem ltr_nm : ∀ k, k ≤ 100 → isNm (ltr k) = true := by decide +kernel
theorem ltr_inj : ∀ k, k ≤ 100 → ∀ m, m ≤ 100 → ltr k = ltr m → k = m := by decide +kernel
end Go.Proofs.YtaibjeehjhlicaaDoor
