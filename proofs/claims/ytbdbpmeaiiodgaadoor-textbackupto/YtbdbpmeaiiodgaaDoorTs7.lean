import Derived.Test.YtbdbpmeaiiodgaaDoorTn7
namespace Go.Proofs.YtbdbpmeaiiodgaaDoor
open Go.RowKit TextNum
theorem sl_cell {w : World} {v : Value} {l : List UInt8} (h : Sl w v l) (hl : l ≠ []) : ∃ b off c, v = .slice (some ⟨b, off, none⟩) l.length c ∧ ∀ i (hi : i < l.length), w.cell? ⟨b, off + i, none⟩ = some (.int .u8 (l[i].toNat : Int)) := by
  obtain ⟨a, c, rfl, hc, h⟩ := h
  obtain ⟨b, off, rfl, hb, hcell⟩ := h.resolve_left hl
  exact ⟨b, off, c, rfl, hcell⟩
set_option maxRecDepth 100000 in
set_option maxHeartbeats 1000000 in
theorem stays_walk (v v2 : Value) (m : List UInt8) (n : UInt8) (b : ByteArray) (w : World) (h1 : Sl w v m) (h2 : Sl w v2 (m ++ [n])) (hm : m.length = 0 ∨ m.length = b.size) (hb : b.size ≤ 1048576) (he : ∀ i (h : i < m.length) (h2 : i < b.size), m[i] = b[i] + n) :
    Calls Tryd.prog 19 #[.agg #[v, v2], vb n, .string b] w fun e w' => e = .returned (.bool true) ∧ Up w w' := by
  obtain ⟨a1, c1, rfl, hc1, hd1⟩ := id h1
  obtain ⟨b2, o2, c2, rfl, hcell2⟩ := sl_cell h2 (by simp)
  rw [show (m ++ [n]).length = m.length + 1 by simp]
  have hml : m.length ≤ 1048576 := by omega
  show Calls Tryd.prog 19 #[.agg #[.slice a1 m.length c1, .slice (some ⟨b2, o2, none⟩) (m.length + 1) c2], .int .u8 (n.toNat : Int), .string b] w _
  have u0 := (Up.refl w).alloc (.cells #[.slice a1 m.length c1, .slice (some ⟨b2, o2, none⟩) (m.length + 1) c2] 31)
  have k0 : (w.alloc (.cells #[.slice a1 m.length c1, .slice (some ⟨b2, o2, none⟩) (m.length + 1) c2] 31)).cell? ⟨w.heap.size, 0, none⟩ = some (.slice a1 m.length c1) := by rw [World.cell?_alloc_at _ _ _ _ rfl]; rfl
  have k1 : (w.alloc (.cells #[.slice a1 m.length c1, .slice (some ⟨b2, o2, none⟩) (m.length + 1) c2] 31)).cell? ⟨w.heap.size, 1, none⟩ = some (.slice (some ⟨b2, o2, none⟩) (m.length + 1) c2) := by rw [World.cell?_alloc_at _ _ _ _ rfl]; rfl
  have hlast : (w.alloc (.cells #[.slice a1 m.length c1, .slice (some ⟨b2, o2, none⟩) (m.length + 1) c2] 31)).cell? ⟨b2, o2 + m.length, none⟩ = some (.int .u8 (n.toNat : Int)) := u0.cell (by have := hcell2 m.length (by simp); simpa using this)
  have hval : ∀ i (h : i < m.length), m[i].toNat = ((b.data.toList.getD i 0) + n).toNat := fun i h => by
    have h2 : i < b.size := by omega
    rw [he i h h2, sget' b i h2, List.getD_eq_getElem?_getD, List.getElem?_eq_getElem (by rw [← Go.Lib.size_eq]; exact h2)]
    rfl
  have hv2 : ∀ i, i < m.length → w.cell? ⟨b2, o2 + i, none⟩ = some (.int .u8 (((b.data.toList.getD i 0) + n).toNat : Int)) := fun i h => by
    rw [hcell2 i (by simp; omega), List.getElem_append_left h, hval i h]
  have hv1 : 0 < m.length → ∃ b1 o1, a1 = some ⟨b1, o1, none⟩ ∧ ∀ i, i < m.length → w.cell? ⟨b1, o1 + i, none⟩ = some (.int .u8 (((b.data.toList.getD i 0) + n).toNat : Int)) := fun hp => by
    rcases hd1 with h | ⟨b1, o1, rfl, _, hc⟩
    · rw [h] at hp; simp at hp
    · exact ⟨b1, o1, rfl, fun i h => by rw [hc i h, hval i h]⟩
  have HD := Hid.of (And.intro hv1 (And.intro hv2 u0))
  clear h1 h2 hd1 hcell2 u0 he hval hv1 hv2
  have f1 : IntKind.i64.wrap ((m.length : Int) + 1) = (m.length : Int) + 1 := by
    simp only [IntKind.wrap, IntKind.signed, IntKind.bits]
    simp
    omega
  have f2 : (m.length : Int) < (m.length : Int) + 1 := by omega
  have hm' : m.length = 0 ∨ (0 < m.length ∧ m.length = b.size) := by omega
  have HKL := Hid.of (show m.length = m.length from rfl)
  generalize hk : m.length = k at *
  have HK := Hid.of hk
  clear hk hm HKL
  rcases hm' with hm | ⟨hm0, hm⟩
  · subst hm
    simp only [Nat.add_zero] at hlast
    go_enter Tryd.func19, Tryd.ntmps19
    go_wp2_with fail
    generalize w.alloc (.cells #[.slice a1 0 c1, .slice (some ⟨b2, o2, none⟩) (0 + 1) c2] 31) = W0 at *
    go_loopw [7] (fun v7 wr => v7 = .int .i64 0 ∧ wr = W0) (fun _ _ => 0)
    case atStart => exact ⟨rfl, rfl⟩
    case round =>
      obtain ⟨rfl, rfl⟩ := hrel
      go_wp2
      go_ret
      exact ⟨rfl, HD.out.2.2⟩
  · subst hm
    have hm1 : ¬ b.size = 0 := by omega
    have HM := Hid.of (show b.size = b.size from rfl)
    go_enter Tryd.func19, Tryd.ntmps19
    obtain ⟨b1, o1, rfl, hc1'⟩ := HD.out.1 hm0
    have HU0 := Hid.of HD.out.2.2
    have HC := Hid.of (And.intro (fun i (hi : i < b.size) => HU0.out.cell (hc1' i hi)) (fun i (hi : i < b.size) => HU0.out.cell (HD.out.2.1 i hi)))
    clear hc1' HD
    go_wp2_with fail
    generalize w.alloc (.cells #[.slice (some ⟨b1, o1, none⟩) b.size c1, .slice (some ⟨b2, o2, none⟩) (b.size + 1) c2] 31) = W0 at *
    go_loopw [7] (fun v7 wr => ∃ i : Nat, v7 = .int .i64 (i : Int) ∧ Hid (i ≤ b.size ∧ Up W0 wr)) (fun v7 _ => b.size - (intOf v7).toNat)
    case atStart => exact ⟨0, rfl, by omega, Up.refl _⟩
    case round =>
      obtain ⟨i, rfl, hI⟩ := hrel
      obtain ⟨hi0, hU⟩ := hI.out
      clear hI
      by_cases hi : i < b.size
      · have hi' : (i : Int) < (b.size : Int) := by omega
        have hi1 : (i : Int) < (b.size : Int) + 1 := by omega
        have hibn := hi
        have d1 := HC.out.1 i hi
        have d2 := HC.out.2 i hi
        have hgd : b.data.toList.getD i 0 = b[i] := by
          rw [sget' b i hibn, List.getD_eq_getElem?_getD, List.getElem?_eq_getElem (by rw [← Go.Lib.size_eq]; exact hibn)]
          rfl
        rw [hgd] at d1 d2
        have hs := u8_sum b[i] n
        generalize b[i] + n = y at *
        have k0' := hU.cell k0
        have k1' := hU.cell k1
        have d1' := hU.cell d1
        have d2' := hU.cell d2
        have HU := Hid.of hU
        clear hU
        have hyy : ((y.toNat : Int) == (y.toNat : Int)) = true := by simp
        go_wp2_with fail
        go_quiet (fail)
        go_wp2
        go_roundw
        case rel => exact ⟨i + 1, by go_num, by omega, HU.out.drewN _⟩
        case measure => simp [intOf]; omega
      · have hi' : ¬ (i : Int) < (b.size : Int) := by omega
        have k0' := hU.cell k0
        have HU := Hid.of (HU0.out.trans hU)
        clear hU
        go_wp2
        go_ret
        exact ⟨rfl, HU.out⟩
end Go.Proofs.YtbdbpmeaiiodgaaDoor
