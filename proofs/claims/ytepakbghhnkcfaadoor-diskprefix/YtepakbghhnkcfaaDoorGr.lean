import Derived.Test.YtepakbghhnkcfaaDoorGq
import Derived.Test.YtepakbghhnkcfaaDoorDm
import Derived.Test.YtepakbghhnkcfaaDoorPo
import Derived.Lib.ConvBytes
namespace Go.Proofs.YtepakbghhnkcfaaDoor
open Go.RowKit Go.Shelf TextNum ModNum
set_option maxRecDepth 100000 in
set_option maxHeartbeats 2000000 in
theorem laid_nil2 (room : Nat) (w : World) : Calls Tryd.prog 49 #[.int .i64 (room : Int), .slice none 0 0] w fun e w' => ∃ D M L, e = .returned (.pointer (some ⟨D, 0, none⟩)) ∧ At w' D 82 (d0c room M (.map (some L)) (.slice none 0 0) 0) ∧ OM w' M 0 (.map []) ∧ OM w' L 0 (.map []) ∧ w.heap.size ≤ D ∧ w.heap.size ≤ M ∧ w.heap.size ≤ L ∧ M ≠ L ∧ Up w w' := by
  have hmk := fun w' => run_mkMap (P := Tryd.prog) 72 9 66 Tryd.underlying72 0 w'
  have hM := World.ownsMap_made w Tryd.prog 9 rp
  have hU1 := (Up.refl w).alloc (.map #[] 0)
  have hs := alloc_size w (.map #[] 0)
  have hA := at_new (w.alloc (.map #[] 0)) 82 (d0c room w.heap.size (.map none) (.slice none 0 0) 0)
  have hU2 := hU1.alloc (.cells (d0c room w.heap.size (.map none) (.slice none 0 0) 0).toArray 82)
  have hM2 : OM _ w.heap.size 0 (.map []) := World.ownsMap.alloc hM (.cells (d0c room w.heap.size (.map none) (.slice none 0 0) 0).toArray 82)
  rw [hs] at hA
  have HA := Hid.of hA
  have HU2 := Hid.of hU2
  have HM2 := Hid.of hM2
  have HSz := Hid.of (show ((w.alloc (.map #[] 0)).alloc (.cells (d0c room w.heap.size (.map none) (.slice none 0 0) 0).toArray 82)).heap.size = w.heap.size + 1 + 1 by rw [alloc_size, hs])
  clear hA hU2 hM2 hM hU1
  go_enter Tryd.func49, Tryd.ntmps49
  go_wp2
  have hW : (w.alloc (.map #[] 0)).alloc (.cells (d0c room w.heap.size (.map none) (.slice none 0 0) 0).toArray 82) = (w.alloc (.map #[] 0)).alloc (.cells #[.int .i64 (room : Int), .int .i64 0, .bool false, .map (some w.heap.size), .map none, .slice none 0 0, .slice none 0 0, .int .i64 0, .int .i64 0, .int .i64 0, .int .i64 0, .int .i64 0] 82) := rfl
  rw [hW] at HA HU2 HM2 HSz
  clear hW
  generalize (w.alloc (.map #[] 0)).alloc (.cells #[.int .i64 (room : Int), .int .i64 0, .bool false, .map (some w.heap.size), .map none, .slice none 0 0, .slice none 0 0, .int .i64 0, .int .i64 0, .int .i64 0, .int .i64 0, .int .i64 0] 82) = W2 at *
  go_loop [7, 16] (fun _ v16 => v16 = .int .i64 0) (fun _ _ => 0)
  case atStart => rfl
  case round =>
    obtain rfl := hrel
    have c3 := HA.out.cell (i := 3) rfl
    have HC := Hid.of (mapsClone_walk w.heap.size 0 (.map []) W2 HM2.out)
    go_wp2_with fail
    refine HC.out.mono ?_
    rintro e w3 ⟨L, rfl, l3, ml3, u3⟩
    have HU3 := Hid.of (HU2.out.trans u3)
    have HA3 := Hid.of (HA.out.up u3)
    have HM3 := Hid.of (HM2.out.up u3)
    have HML := Hid.of ml3
    have hs2 : W2.heap.size = w.heap.size + 1 + 1 := HSz.out
    have hl3 : w.heap.size + 1 + 1 ≤ L := by omega
    have t4 := HA3.out.thaw 4
    have c4 := HA3.out.cell (i := 4) rfl
    clear u3 c3 HC ml3 l3 hs2
    dsimp only
    have HA4 := Hid.of (HA3.out.set 4 (.map (some L)))
    have HG4 := Hid.of (grown_at w3 (w.heap.size + 1) 4 (.map (some L)))
    go_wp2
    go_ret
    exact ⟨w.heap.size + 1, w.heap.size, L, rfl, HA4.out, World.ownsMap.kept HM3.out HG4.out (fun e => by have := Option.some.inj e; omega), World.ownsMap.kept HML.out HG4.out (fun e => by have := Option.some.inj e; omega), by omega, by omega, by omega, by omega, HU3.out.by HG4.out (fun g hg => by have := Option.some.inj hg; omega)⟩
set_option maxRecDepth 100000 in
set_option maxHeartbeats 2000000 in
theorem New_raw (room : Nat) (hr : room ≤ 1099511627776) (w : World) : Calls Tryd.prog 8 #[.int .i64 (room : Int)] w fun e w' => ∃ D M L, e = .returned (.tuple #[.pointer (some ⟨D, 0, none⟩), .int .i64 0]) ∧ At w' D 82 (d0c room M (.map (some L)) (.slice none 0 0) 0) ∧ OM w' M 0 (.map []) ∧ OM w' L 0 (.map []) ∧ w.heap.size ≤ D ∧ w.heap.size ≤ M ∧ w.heap.size ≤ L ∧ M ≠ L ∧ Up w w' := by
  have HL : Hid (Calls Tryd.prog 19 #[.int .i64 (room : Int), .slice none 0 0] w fun e w' => ∃ D M L, e = .returned (.tuple #[.pointer (some ⟨D, 0, none⟩), .int .i64 0]) ∧ At w' D 82 (d0c room M (.map (some L)) (.slice none 0 0) 0) ∧ OM w' M 0 (.map []) ∧ OM w' L 0 (.map []) ∧ w.heap.size ≤ D ∧ w.heap.size ≤ M ∧ w.heap.size ≤ L ∧ M ≠ L ∧ Up w w') := by
    have h1 : ¬ (room : Int) < 0 := by omega
    have h2 : ¬ (1099511627776 : Int) < (room : Int) := by omega
    have HN := Hid.of (namedTwice_nil w)
    have HF := fun w' => Hid.of (fit_nil room w')
    have HL := fun w' => Hid.of (laid_nil2 room w')
    unfold Hid
    go_enter Tryd.func19, Tryd.ntmps19
    go_wp2
    go_loop [7, 16] (fun _ v16 => v16 = .int .i64 0) (fun _ _ => 0)
    case atStart => rfl
    case round =>
      obtain rfl := hrel
      go_wp2_with fail
      refine HN.out.mono ?_
      rintro e w1 ⟨rfl, u1⟩
      have HU1 := Hid.of u1
      clear u1 HN
      dsimp only
      go_wp2_with fail
      refine (HF w1).out.mono ?_
      rintro e w2 ⟨rfl, u2⟩
      have HU2 := Hid.of (HU1.out.trans u2)
      clear u2 HF HU1
      dsimp only
      go_wp2_with fail
      refine (HL w2).out.mono ?_
      rintro e w3 ⟨D, M, L, rfl, a3, m3, m4, b1, b2, b3, b4, u3⟩
      have HP := Hid.of (And.intro a3 (And.intro m3 (And.intro m4 (And.intro (Nat.le_trans HU2.out.size b1) (And.intro (Nat.le_trans HU2.out.size b2) (And.intro (Nat.le_trans HU2.out.size b3) (And.intro b4 (HU2.out.trans u3))))))))
      clear a3 m3 m4 b1 b2 b3 b4 u3 HL
      dsimp only
      go_wp2
      go_ret2
      exact ⟨D, M, L, rfl, HP.out⟩
  go_enter Tryd.func8, Tryd.ntmps8
  go_wp2_with fail
  refine HL.out.mono ?_
  rintro e w3 ⟨D, M, L, rfl, hP⟩
  have HP := Hid.of hP
  clear hP HL
  dsimp only
  go_wp2
  go_ret2
  exact ⟨D, M, L, rfl, HP.out⟩

/-- a new disk -/
abbrev nwS (room M L : Nat) : DD := ⟨room, M, L, 0, 0, 0, .map [], .map [], fun _ => none, .slice none 0 0, .slice none 0 0, [], [], [], 0, 0, 0, 0, false⟩
theorem New_gen (room B : Nat) (hr : room ≤ 1099511627776) (w : World) (hG : ML w) (hB : B ≤ w.heap.size) (hl : 0 < B) : Calls Tryd.prog 8 #[.int .i64 (room : Int)] w fun e w' => ∃ D M L, e = .returned (.tuple #[pv D, .int .i64 0]) ∧ DOk w' B D 0 (nwS room M L) ∧ (∀ k, own D (nwS room M L) k → w.heap.size ≤ k) ∧ Up w w' := by
  refine (New_raw room hr w).mono ?_
  rintro e w' ⟨D, M, L, rfl, a, m, l, b1, b2, b3, b4, u⟩
  refine ⟨D, M, L, rfl, ⟨hG.up u, ⟨hl, by omega, by show B ≤ M; omega, by show B ≤ L; omega⟩, Nat.le_trans hB u.size, a, m, ⟨fun x => ?_, fun p hp => by cases hp⟩, List.nodup_nil, (fun p hp => by cases hp), l, fun x => ⟨rfl, fun b e => by cases e⟩, b4, World.ownsRow_nil _ _ _ _, World.ownsRow_nil _ _ _ _, (fun c hc => by cases hc), (fun c hc => by cases hc), (fun f hf => by cases hf), List.nodup_nil, (fun f hf => by cases hf), (fun f hf => by cases hf), ?_⟩, fun k hk => ?_, u⟩
  · show Maps.has (.map [] : DataW Unit) (.string x) = true ↔ x ∈ []
    simp [Maps.has_eq]
  · show (0 : Nat) ≤ 0 ∧ (0 : Nat) ≤ 0 ∧ (0 : Nat) ≤ 0 ∧ (0 : Nat) ≤ 0 ∧ lsd [] ≤ 0 ∧ (0 : Nat) ≤ 0 + 0 ∧ (0 : Nat) ≤ 0 + 0 ∧ (0 : Nat) ≤ 100000 ∧ (0 : Nat) ≤ 1000000 ∧ room ≤ 1099511627776 ∧ usd [] ≤ 1099511627776
    simp only [lsd, usd, List.map_nil, List.sum_nil]
    omega
  · rcases hk with hk | hk | hk | hk | hk | ⟨f, hf, _⟩ | ⟨c, hc, _⟩
    · omega
    · have hk : k = M := hk
      omega
    · have hk : k = L := hk
      omega
    · cases hk
    · cases hk
    · cases hf
    · cases hc
set_option maxRecDepth 100000 in
set_option maxHeartbeats 1000000 in
theorem within8 (n : Int) (w : World) : Calls Tryd.prog 7 #[.int .i64 n, .int .i64 0, .int .i64 8] w fun e w' => ∃ k : Nat, k ≤ 8 ∧ e = .returned (.int .i64 (k : Int)) ∧ w' = w := by
  have h1 := Int.tmod_lt_of_pos n (show (0 : Int) < 9 by decide)
  have h2 : -9 < n.tmod 9 := by
    have h3 := Int.tmod_lt_of_pos (-n) (show (0 : Int) < 9 by decide)
    rw [Int.neg_tmod] at h3
    omega
  generalize hr : n.tmod 9 = r at *
  go_enter Tryd.func7, Tryd.ntmps7
  by_cases hz : r < 0
  · go_wp2
    go_ret
    exact ⟨(r + 9).toNat, by omega, by rw [show (((r + 9).toNat : Nat) : Int) = r + 8 + 1 by omega]; rfl, rfl⟩
  · go_wp2
    go_ret
    exact ⟨r.toNat, by omega, by rw [show ((r.toNat : Nat) : Int) = r by omega]; rfl, rfl⟩


theorem conv_sb2 {w : World} {v : Value} {l : List UInt8} (h : Sb w v l) : (convert 29 9 v).run Tryd.prog w = .ok (.string ⟨l.toArray⟩) w := by
  obtain ⟨a, c, rfl, _, _, h3, h4⟩ := h
  cases a with
  | none =>
    obtain ⟨rfl, rfl⟩ := h3 rfl
    exact run_convert_bytes_nil w 29 5 Tryd.underlying29 Tryd.underlying5 _ _ 9 Tryd.underlying9
  | some ad =>
    exact run_convert_bytes_back w 29 9 5 ad c l Tryd.underlying29 Tryd.underlying5 Tryd.underlying9 (fun j hj => (h4 ad rfl).2 j _ (cb_get hj))
/-- the name of file number k -/
def ltr (k : Nat) : List UInt8 := [102, UInt8.ofNat (97 + k / 26 % 26), UInt8.ofNat (97 + k % 26)]
theorem ltr_nm : ∀ k, k ≤ 100 → isNm (ltr k) = true := by decide +kernel
theorem ltr_inj : ∀ k, k ≤ 100 → ∀ m, m ≤ 100 → ltr k = ltr m → k = m := by decide +kernel
set_option maxRecDepth 100000 in
set_option maxHeartbeats 1000000 in
theorem letters_walk (k : Nat) (hk : k ≤ 100) (w : World) : Calls Tryd.prog 16 #[.int .i64 (k : Int)] w fun e w' => e = .returned (.string ⟨(ltr k).toArray⟩) ∧ Up w w' := by
  have e1 : ((k : Int).tdiv 26).tmod 26 = ((k / 26 % 26 : Nat) : Int) := by rw [Int.tdiv_eq_ediv_of_nonneg (by omega), Int.tmod_eq_emod_of_nonneg (by omega)]; omega
  have e2 : (k : Int).tmod 26 = ((k % 26 : Nat) : Int) := by rw [Int.tmod_eq_emod_of_nonneg (by omega)]; omega
  have q1 : k / 26 % 26 < 26 := Nat.mod_lt _ (by omega)
  have q2 : k % 26 < 26 := Nat.mod_lt _ (by omega)
  have HL := Hid.of (show ltr k = [102, UInt8.ofNat (97 + k / 26 % 26), UInt8.ofNat (97 + k % 26)] ∧ True from ⟨rfl, trivial⟩)
  rw [HL.out.1]
  clear HL
  generalize k / 26 % 26 = a at *
  generalize k % 26 = b at *
  have t1 : (UInt8.ofNat (97 + a)).toNat = 97 + a := by rw [UInt8.toNat_ofNat', Nat.mod_eq_of_lt (by omega)]
  have t2 : (UInt8.ofNat (97 + b)).toNat = 97 + b := by rw [UInt8.toNat_ofNat', Nat.mod_eq_of_lt (by omega)]
  generalize UInt8.ofNat (97 + a) = x at *
  generalize UInt8.ofNat (97 + b) = y at *
  obtain ⟨kz, hkz⟩ : ∃ kz : Int, (k : Int) = kz := ⟨_, rfl⟩
  have b1 : 0 ≤ kz := by omega
  have b2 : kz ≤ 100 := by omega
  rw [hkz] at e1 e2 ⊢
  have e1' : kz / 26 % 26 = (a : Int) := by rw [Int.tdiv_eq_ediv_of_nonneg b1, Int.tmod_eq_emod_of_nonneg (by omega)] at e1; exact e1
  have e2' : kz % 26 = (b : Int) := by rw [Int.tmod_eq_emod_of_nonneg b1] at e2; exact e2
  have hA := at_new w 5 [.int .u8 (97 + (a : Int)), .int .u8 (97 + (b : Int))]
  have hcv := conv_sb2 (w := w.alloc (.cells #[.int .u8 (97 + (a : Int)), .int .u8 (97 + (b : Int))] 5)) (v := .slice (some ⟨w.heap.size, 0, none⟩) 2 2) (l := [x, y]) ⟨some ⟨w.heap.size, 0, none⟩, 2, rfl, Nat.le_refl _, by simp [maxLen], (fun e => by cases e), fun ad e => by
    obtain rfl := Option.some.inj e
    refine ⟨fun _ => rfl, fun j u hj => ?_⟩
    rw [Addr.add_lit]
    refine At.cell hA (i := 0 + j) ?_
    rw [Nat.zero_add, ← hj]
    simp [cb, t1, t2]⟩
  clear hkz hk hA
  go_enter Tryd.func16, Tryd.ntmps16
  go_wp2
  go_ret
  exact ⟨rfl, (Up.refl w).alloc _⟩
end Go.Proofs.YtepakbghhnkcfaaDoor
