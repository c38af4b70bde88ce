import Derived.Test.YtepakbghhnkcfaaDoorDl
import Derived.Test.YtepakbghhnkcfaaDoorDh
namespace Go.Proofs.YtepakbghhnkcfaaDoor
open Go.RowKit Go.Shelf TextNum ModNum
abbrev d0c (room : Nat) (M : Nat) (vL vC : Value) (acts : Int) : List Value := [.int .i64 (room : Int), .int .i64 0, .bool false, .map (some M), vL, vC, .slice none 0 0, .int .i64 0, .int .i64 0, .int .i64 acts, .int .i64 0, .int .i64 0]
set_option maxRecDepth 100000 in
set_option maxHeartbeats 2000000 in
theorem laid_nil (room : Nat) (w : World) : Calls Tryd.prog 49 #[.int .i64 (room : Int), .slice none 0 0] w fun e w' => ∃ D M L, e = .returned (.pointer (some ⟨D, 0, none⟩)) ∧ At w' D 82 (d0c room M (.map (some L)) (.slice none 0 0) 0) ∧ OM w' M 0 (.map []) ∧ w.heap.size ≤ D ∧ w.heap.size ≤ M ∧ Up w w' := by
  have hmk := fun w' => run_mkMap (P := Tryd.prog) 72 9 66 Tryd.underlying72 0 w'
  have hM := World.ownsMap_made w Tryd.prog 9 rp
  have hU1 := (Up.refl w).alloc (.map #[] 0)
  have hs := alloc_size w (.map #[] 0)
  have hA := at_new (w.alloc (.map #[] 0)) 82 (d0c room w.heap.size (.map none) (.slice none 0 0) 0)
  have hU2 := hU1.alloc (.cells (d0c room w.heap.size (.map none) (.slice none 0 0) 0).toArray 82)
  have hM2 : OM _ w.heap.size 0 (.map []) := World.ownsMap.alloc hM (.cells (d0c room w.heap.size (.map none) (.slice none 0 0) 0).toArray 82)
  rw [hs] at hA
  have HA := Hid.of hA
  have HU2 := Hid.of hU2
  have HM2 := Hid.of hM2
  clear hA hU2 hM2 hM hU1
  go_enter Tryd.func49, Tryd.ntmps49
  go_wp2
  have hW : (w.alloc (.map #[] 0)).alloc (.cells (d0c room w.heap.size (.map none) (.slice none 0 0) 0).toArray 82) = (w.alloc (.map #[] 0)).alloc (.cells #[.int .i64 (room : Int), .int .i64 0, .bool false, .map (some w.heap.size), .map none, .slice none 0 0, .slice none 0 0, .int .i64 0, .int .i64 0, .int .i64 0, .int .i64 0, .int .i64 0] 82) := rfl
  rw [hW] at HA HU2 HM2
  clear hW
  generalize (w.alloc (.map #[] 0)).alloc (.cells #[.int .i64 (room : Int), .int .i64 0, .bool false, .map (some w.heap.size), .map none, .slice none 0 0, .slice none 0 0, .int .i64 0, .int .i64 0, .int .i64 0, .int .i64 0, .int .i64 0] 82) = W2 at *
  go_loop [7, 16] (fun _ v16 => v16 = .int .i64 0) (fun _ _ => 0)
  case atStart => rfl
  case round =>
    obtain rfl := hrel
    have c3 := HA.out.cell (i := 3) rfl
    have HC := Hid.of (mapsClone_walk w.heap.size 0 (.map []) W2 HM2.out)
    go_wp2_with fail
    refine HC.out.mono ?_
    rintro e w3 ⟨L, rfl, _, _, u3⟩
    have HU3 := Hid.of (HU2.out.trans u3)
    have HA3 := Hid.of (HA.out.up u3)
    have HM3 := Hid.of (HM2.out.up u3)
    have t4 := HA3.out.thaw 4
    have c4 := HA3.out.cell (i := 4) rfl
    clear u3 c3 HC
    dsimp only
    have HA4 := Hid.of (HA3.out.set 4 (.map (some L)))
    have HG4 := Hid.of (grown_at w3 (w.heap.size + 1) 4 (.map (some L)))
    go_wp2
    go_ret
    exact ⟨w.heap.size + 1, w.heap.size, L, rfl, HA4.out, World.ownsMap.kept HM3.out HG4.out (fun e => by have := Option.some.inj e; omega), by omega, by omega, HU3.out.by HG4.out (fun g hg => by have := Option.some.inj hg; omega)⟩
set_option maxRecDepth 100000 in
set_option maxHeartbeats 2000000 in
theorem New_walk (room : Nat) (hr : room ≤ 4000) (w : World) : Calls Tryd.prog 8 #[.int .i64 (room : Int)] w fun e w' => ∃ D M L, e = .returned (.tuple #[.pointer (some ⟨D, 0, none⟩), .int .i64 0]) ∧ At w' D 82 (d0c room M (.map (some L)) (.slice none 0 0) 0) ∧ OM w' M 0 (.map []) ∧ w.heap.size ≤ D ∧ w.heap.size ≤ M ∧ Up w w' := by
  have HL : Hid (Calls Tryd.prog 19 #[.int .i64 (room : Int), .slice none 0 0] w fun e w' => ∃ D M L, e = .returned (.tuple #[.pointer (some ⟨D, 0, none⟩), .int .i64 0]) ∧ At w' D 82 (d0c room M (.map (some L)) (.slice none 0 0) 0) ∧ OM w' M 0 (.map []) ∧ w.heap.size ≤ D ∧ w.heap.size ≤ M ∧ Up w w') := by
    have h1 : ¬ (room : Int) < 0 := by omega
    have h2 : ¬ (1099511627776 : Int) < (room : Int) := by omega
    have HN := Hid.of (namedTwice_nil w)
    have HF := fun w' => Hid.of (fit_nil room w')
    have HL := fun w' => Hid.of (laid_nil room w')
    unfold Hid
    go_enter Tryd.func19, Tryd.ntmps19
    go_wp2
    go_loop [7, 16] (fun _ v16 => v16 = .int .i64 0) (fun _ _ => 0)
    case atStart => rfl
    case round =>
      obtain rfl := hrel
      go_wp2_with fail
      refine HN.out.mono ?_
      rintro e w1 ⟨rfl, u1⟩
      have HU1 := Hid.of u1
      clear u1 HN
      dsimp only
      go_wp2_with fail
      refine (HF w1).out.mono ?_
      rintro e w2 ⟨rfl, u2⟩
      have HU2 := Hid.of (HU1.out.trans u2)
      clear u2 HF HU1
      dsimp only
      go_wp2_with fail
      refine (HL w2).out.mono ?_
      rintro e w3 ⟨D, M, L, rfl, a3, m3, b1, b2, u3⟩
      have HP := Hid.of (And.intro a3 (And.intro m3 (And.intro (Nat.le_trans HU2.out.size b1) (And.intro (Nat.le_trans HU2.out.size b2) (HU2.out.trans u3)))))
      clear a3 m3 b1 b2 u3 HL
      dsimp only
      go_wp2
      go_ret2
      exact ⟨D, M, L, rfl, HP.out⟩
  go_enter Tryd.func8, Tryd.ntmps8
  go_wp2_with fail
  refine HL.out.mono ?_
  rintro e w3 ⟨D, M, L, rfl, hP⟩
  have HP := Hid.of hP
  clear hP HL
  dsimp only
  go_wp2
  go_ret2
  exact ⟨D, M, L, rfl, HP.out⟩
theorem rp_inv0 {v : Value} {ps : List MemPlace} (h : rp v = some (.lit (.bool false), ps)) : v = .pointer none := by
  unfold rp at h
  split at h
  · rfl
  · simp at h
  · cases h
set_option maxRecDepth 100000 in
set_option maxHeartbeats 1000000 in
theorem release_none (D M n : Nat) (x0 x1 x2 x4 x5 x6 x7 x8 x9 x10 x11 : Value) (w : World) (hA : At w D 82 [x0, x1, x2, .map (some M), x4, x5, x6, x7, x8, x9, x10, x11]) (hM : OM w M n (.map [])) :
    Calls Tryd.prog 30 #[.pointer (some ⟨D, 0, none⟩), .string ⟨#[102]⟩] w fun e w' => e = .returned (.tuple #[]) ∧ w' = w := by
  have c3 := hA.cell (i := 3) rfl
  have HM := Hid.of hM
  clear hA hM
  go_enter Tryd.func30, Tryd.ntmps30
  go_wp2_with (with_reducible show wpList _ _ _ ({ dst := _, op := Op.lookup 72 _ _ _, type := _, pos := _, after := _, guard := _ } :: _) _ _; refine Shut.out ?_)
  show wpList _ _ _ _ _ _
  refine wpList_lookup_own_ok _ rfl _ _ 72 rfl 9 66 (Maps.string_keyed Tryd.underlying9) Tryd.underlying72 rp (Tryd.zeroValue66 _) (.lit (.bool false)) [] rfl M n (.map []) rfl HM.out _ fk rfl keyF ?_
  intro v ps hv
  obtain rfl := rp_inv0 hv
  rw [show Maps.has (.map [] : DataW Unit) fk = false from rfl]
  clear hv
  simp only [Act.put, List.setIfInBounds_toArray, List.set_cons_zero, List.set_cons_succ]
  go_wp2
  go_end0
  exact ⟨rfl, rfl⟩
set_option maxRecDepth 100000 in
set_option maxHeartbeats 1000000 in
theorem Create11_walk (M F b1 b2 : Nat) (w : World) (hM : OM w M 0 (.map [])) (h1 : At w b1 66 [.pointer (some ⟨F, 0, none⟩)]) (h2 : At w b2 9 [.string ⟨#[102]⟩]) :
    Calls Tryd.prog 32 #[.map (some M), .pointer (some ⟨b1, 0, none⟩), .pointer (some ⟨b2, 0, none⟩)] w fun e w' => e = .returned (.tuple #[]) ∧ OM w' M 1 (D1 F) ∧ w.grownBy w' (some M) := by
  have c1 := h1.cell (i := 0) rfl
  have c2 := h2.cell (i := 0) rfl
  have HM := Hid.of hM
  clear hM h1 h2
  go_enter Tryd.func32, Tryd.ntmps32
  go_wp2_with (with_reducible show wpList _ _ _ ({ dst := _, op := Op.mapUpdate 72 _ _ _, type := _, pos := _, after := _, guard := _ } :: _) _ _; refine Shut.out ?_)
  show wpList _ _ _ _ _ _
  refine wpList_mapUpdate_own _ rfl _ _ _ 72 rfl 9 66 (Maps.string_keyed Tryd.underlying9) Tryd.underlying72 rp M 0 (.map []) rfl HM.out (by decide) _ _ fk rfl rfl keyF (fd F) [] rfl ?_
  intro w1 o1 g1
  have HO := Hid.of (show OM w1 M 1 (D1 F) from o1)
  have HG := Hid.of g1
  clear o1 g1
  simp only [Act.put]
  go_wp2
  go_end0
  exact ⟨rfl, HO.out, HG.out⟩
end Go.Proofs.YtepakbghhnkcfaaDoor
