import Derived.Test.YtaibjeehjhlicaaGreatDoorQbi
import Derived.Test.YtaibjeehjhlicaaGreatDoorQan
import Derived.Lib.ConvBytes
namespace Go.Proofs.YtaibjeehjhlicaaGreatDoor
open Go.RowKit Go.Shelf TextNum ModNum
set_option maxRecDepth 100000 in
set_option maxHeartbeats 2000000 in
theorem laid_nil2 (room : Nat) (w : World) : Calls Tryz.prog 64 #[.int .i64 (room : Int), .slice none 0 0] w fun e w' => ∃ D M L, e = .returned (.pointer (some ⟨D, 0, none⟩)) ∧ At w' D 85 (d0c room M (.map (some L)) (.slice none 0 0) 0) ∧ OM w' M 0 (.map []) ∧ OM w' L 0 (.map []) ∧ w.heap.size ≤ D ∧ w.heap.size ≤ M ∧ w.heap.size ≤ L ∧ M ≠ L ∧ Up w w' := by
  have hmk := fun w' => run_mkMap (P := Tryz.prog) 81 9 88 Tryz.underlying81 0 w'
  have hM := World.ownsMap_made w Tryz.prog 9 rp
  have hU1 := (Up.refl w).alloc (.map #[] 0)
  have hs := alloc_size w (.map #[] 0)
  have hA := at_new (w.alloc (.map #[] 0)) 85 (d0c room w.heap.size (.map none) (.slice none 0 0) 0)
  have hU2 := hU1.alloc (.cells (d0c room w.heap.size (.map none) (.slice none 0 0) 0).toArray 85)
  have hM2 : OM _ w.heap.size 0 (.map []) := World.ownsMap.alloc hM (.cells (d0c room w.heap.size (.map none) (.slice none 0 0) 0).toArray 85)
  rw [hs] at hA
  have HA := Hid.of hA
  have HU2 := Hid.of hU2
  have HM2 := Hid.of hM2
  have HSz := Hid.of (show ((w.alloc (.map #[] 0)).alloc (.cells (d0c room w.heap.size (.map none) (.slice none 0 0) 0).toArray 85)).heap.size = w.heap.size + 1 + 1 by rw [alloc_size, hs])
  clear hA hU2 hM2 hM hU1
  go_enter Tryz.func64, Tryz.ntmps64
  go_wp2
  have hW : (w.alloc (.map #[] 0)).alloc (.cells (d0c room w.heap.size (.map none) (.slice none 0 0) 0).toArray 85) = (w.alloc (.map #[] 0)).alloc (.cells #[.int .i64 (room : Int), .int .i64 0, .bool false, .map (some w.heap.size), .map none, .slice none 0 0, .slice none 0 0, .int .i64 0, .int .i64 0, .int .i64 0, .int .i64 0, .int .i64 0] 85) := rfl
  rw [hW] at HA HU2 HM2 HSz
  clear hW
  generalize (w.alloc (.map #[] 0)).alloc (.cells #[.int .i64 (room : Int), .int .i64 0, .bool false, .map (some w.heap.size), .map none, .slice none 0 0, .slice none 0 0, .int .i64 0, .int .i64 0, .int .i64 0, .int .i64 0, .int .i64 0] 85) = W2 at *
  go_loop [7, 16] (fun _ v16 => v16 = .int .i64 0) (fun _ _ => 0)
  case atStart => rfl
  case round =>
    obtain rfl := hrel
    have c3 := HA.out.cell (i := 3) rfl
    have HC := Hid.of (mapsClone_walk w.heap.size 0 (.map []) W2 HM2.out)
    go_wp2_with fail
    refine HC.out.mono ?_
    rintro e w3 ⟨L, rfl, l3, ml3, u3⟩
    have HU3 := Hid.of (HU2.out.trans u3)
    have HA3 := Hid.of (HA.out.up u3)
    have HM3 := Hid.of (HM2.out.up u3)
    have HML := Hid.of ml3
    have hs2 : W2.heap.size = w.heap.size + 1 + 1 := HSz.out
    have hl3 : w.heap.size + 1 + 1 ≤ L := by omega
    have t4 := HA3.out.thaw 4
    have c4 := HA3.out.cell (i := 4) rfl
    clear u3 c3 HC ml3 l3 hs2
    dsimp only
    have HA4 := Hid.of (HA3.out.set 4 (.map (some L)))
    have HG4 := Hid.of (grown_at w3 (w.heap.size + 1) 4 (.map (some L)))
    go_wp2
    go_ret
    exact ⟨w.heap.size + 1, w.heap.size, L, rfl, HA4.out, World.ownsMap.kept HM3.out HG4.out (fun e => by have := Option.some.inj e; omega), World.ownsMap.kept HML.out HG4.out (fun e => by have := Option.some.inj e; omega), by omega, by omega, by omega, by omega, HU3.out.by HG4.out (fun g hg => by have := Option.some.inj hg; omega)⟩
set_option maxRecDepth 100000 in
set_option maxHeartbeats 2000000 in
theorem New_raw (room : Nat) (hr : room ≤ 1099511627776) (w : World) : Calls Tryz.prog 35 #[.int .i64 (room : Int)] w fun e w' => ∃ D M L, e = .returned (.tuple #[.pointer (some ⟨D, 0, none⟩), .int .i64 0]) ∧ At w' D 85 (d0c room M (.map (some L)) (.slice none 0 0) 0) ∧ OM w' M 0 (.map []) ∧ OM w' L 0 (.map []) ∧ w.heap.size ≤ D ∧ w.heap.size ≤ M ∧ w.heap.size ≤ L ∧ M ≠ L ∧ Up w w' := by
  have HL : Hid (Calls Tryz.prog 50 #[.int .i64 (room : Int), .slice none 0 0] w fun e w' => ∃ D M L, e = .returned (.tuple #[.pointer (some ⟨D, 0, none⟩), .int .i64 0]) ∧ At w' D 85 (d0c room M (.map (some L)) (.slice none 0 0) 0) ∧ OM w' M 0 (.map []) ∧ OM w' L 0 (.map []) ∧ w.heap.size ≤ D ∧ w.heap.size ≤ M ∧ w.heap.size ≤ L ∧ M ≠ L ∧ Up w w') := by
    have h1 : ¬ (room : Int) < 0 := by omega
    have h2 : ¬ (1099511627776 : Int) < (room : Int) := by omega
    have HN := Hid.of (namedTwice_nil w)
    have HF := fun w' => Hid.of (fit_nil room w')
    have HL := fun w' => Hid.of (laid_nil2 room w')
    unfold Hid
    go_enter Tryz.func50, Tryz.ntmps50
    go_wp2
    go_loop [7, 16] (fun _ v16 => v16 = .int .i64 0) (fun _ _ => 0)
    case atStart => rfl
    case round =>
      obtain rfl := hrel
      go_wp2_with fail
      refine HN.out.mono ?_
      rintro e w1 ⟨rfl, u1⟩
      have HU1 := Hid.of u1
      clear u1 HN
      dsimp only
      go_wp2_with fail
      refine (HF w1).out.mono ?_
      rintro e w2 ⟨rfl, u2⟩
      have HU2 := Hid.of (HU1.out.trans u2)
      clear u2 HF HU1
      dsimp only
      go_wp2_with fail
      refine (HL w2).out.mono ?_
      rintro e w3 ⟨D, M, L, rfl, a3, m3, m4, b1, b2, b3, b4, u3⟩
      have HP := Hid.of (And.intro a3 (And.intro m3 (And.intro m4 (And.intro (Nat.le_trans HU2.out.size b1) (And.intro (Nat.le_trans HU2.out.size b2) (And.intro (Nat.le_trans HU2.out.size b3) (And.intro b4 (HU2.out.trans u3))))))))
      clear a3 m3 m4 b1 b2 b3 b4 u3 HL
      dsimp only
      go_wp2
      go_ret2
      exact ⟨D, M, L, rfl, HP.out⟩
  go_enter Tryz.func35, Tryz.ntmps35
  go_wp2_with fail
  refine HL.out.mono ?_
  rintro e w3 ⟨D, M, L, rfl, hP⟩
  have HP := Hid.of hP
  clear hP HL
  dsimp only
  go_wp2
  go_ret2
  exact ⟨D, M, L, rfl, HP.out⟩

/-- a new disk -/
abbrev nwS (room M L : Nat) : DD := ⟨room, M, L, 0, 0, 0, .map [], .map [], fun _ => none, .slice none 0 0, .slice none 0 0, [], [], [], 0, 0, 0, 0, false⟩
theorem New_gen (room B : Nat) (hr : room ≤ 1099511627776) (w : World) (hG : ML w) (hB : B ≤ w.heap.size) (hl : 0 < B) : Calls Tryz.prog 35 #[.int .i64 (room : Int)] w fun e w' => ∃ D M L, e = .returned (.tuple #[pv D, .int .i64 0]) ∧ DOk w' B D 0 (nwS room M L) ∧ (∀ k, own D (nwS room M L) k → w.heap.size ≤ k) ∧ Up w w' := by
  refine (New_raw room hr w).mono ?_
  rintro e w' ⟨D, M, L, rfl, a, m, l, b1, b2, b3, b4, u⟩
  refine ⟨D, M, L, rfl, ⟨hG.up u, ⟨hl, by omega, by show B ≤ M; omega, by show B ≤ L; omega⟩, Nat.le_trans hB u.size, a, m, ⟨fun x => ?_, fun p hp => by cases hp⟩, List.nodup_nil, (fun p hp => by cases hp), l, fun x => ⟨rfl, fun b e => by cases e⟩, b4, World.ownsRow_nil _ _ _ _, World.ownsRow_nil _ _ _ _, (fun c hc => by cases hc), (fun c hc => by cases hc), (fun f hf => by cases hf), List.nodup_nil, (fun f hf => by cases hf), (fun f hf => by cases hf), ?_⟩, fun k hk => ?_, u⟩
  · show Maps.has (.map [] : DataW Unit) (.string x) = true ↔ x ∈ []
    simp [Maps.has_eq]
  · show (0 : Nat) ≤ 0 ∧ (0 : Nat) ≤ 0 ∧ (0 : Nat) ≤ 0 ∧ (0 : Nat) ≤ 0 ∧ lsd [] ≤ 0 ∧ (0 : Nat) ≤ 0 + 0 ∧ (0 : Nat) ≤ 0 + 0 ∧ (0 : Nat) ≤ 100000 ∧ (0 : Nat) ≤ 1000000 ∧ room ≤ 1099511627776 ∧ usd [] ≤ 1099511627776
    simp only [lsd, usd, List.map_nil, List.sum_nil]
    omega
  · rcases hk with hk | hk | hk | hk | hk | ⟨f, hf, _⟩ | ⟨c, hc, _⟩
    · omega
    · have hk : k = M := hk
      omega
    · have hk : k = L := hk
      omega
    · cases hk
    · cases hk
    · cases hf
    · cases hc
set_option maxRecDepth 100000 in
set_option maxHeartbeats 1000000 in
theorem within8 (n : Int) (w : World) : Calls Tryz.prog 24 #[.int .i64 n, .int .i64 0, .int .i64 8] w fun e w' => ∃ k : Nat, k ≤ 8 ∧ e = .returned (.int .i64 (k : Int)) ∧ w' = w := by
  have h1 := Int.tmod_lt_of_pos n (show (0 : Int) < 9 by decide)
  have h2 : -9 < n.tmod 9 := by
    have h3 := Int.tmod_lt_of_pos (-n) (show (0 : Int) < 9 by decide)
    rw [Int.neg_tmod] at h3
    omega
  generalize hr : n.tmod 9 = r at *
  go_enter Tryz.func24, Tryz.ntmps24
  by_cases hz : r < 0
  · go_wp2
    go_ret
    exact ⟨(r + 9).toNat, by omega, by rw [show (((r + 9).toNat : Nat) : Int) = r + 8 + 1 by omega]; rfl, rfl⟩
  · go_wp2
    go_ret
    exact ⟨r.toNat, by omega, by rw [show ((r.toNat : Nat) : Int) = r by omega]; rfl, rfl⟩


theorem conv_sb2 {w : World} {v : Value} {l : List UInt8} (h : Sb w v l) : (convert 41 9 v).run Tryz.prog w = .ok (.string ⟨l.toArray⟩) w := by
  obtain ⟨a, c, rfl, _, _, h3, h4⟩ := h
  cases a with
  | none =>
    obtain ⟨rfl, rfl⟩ := h3 rfl
    exact run_convert_bytes_nil w 41 5 Tryz.underlying41 Tryz.underlying5 _ _ 9 Tryz.underlying9
  | some ad =>
    exact run_convert_bytes_back w 41 9 5 ad c l Tryz.underlying41 Tryz.underlying5 Tryz.underlying9 (fun j hj => (h4 ad rfl).2 j _ (cb_get hj))
/-- the name of file number k -/
def ltr (k : Nat) : List UInt8 := [102, UInt8.ofNat (97 + k / 26 % 26), UInt8.ofNat (97 + k % 26)]
theorem ltr_nm : ∀ k, k ≤ 100 → isNm (ltr k) = true := by decide +kernel
theorem ltr_inj : ∀ k, k ≤ 100 → ∀ m, m ≤ 100 → ltr k = ltr m → k = m := by decide +kernel
end Go.Proofs.YtaibjeehjhlicaaGreatDoor
namespace Go.Proofs.YtaibjeehjhlicaaGreatDoor
open Go.RowKit Go.Shelf TextNum ModNum
/-- a file as it is told or handed in -/
structure GF where
  nm : ByteArray
  v : Value
  ds : List UInt8
structure FsL (w : World) (a : Option Addr) (fs : List GF) (c : Nat) : Prop where
  cap : fs.length ≤ c
  cells : ∀ i (h : i < fs.length), ∃ b off, a = some ⟨b, off, none⟩ ∧ w.cell? ⟨b, off + i * 2, none⟩ = some (.string fs[i].nm) ∧ w.cell? ⟨b, off + i * 2 + 1, none⟩ = some fs[i].v
  sb : ∀ g ∈ fs, Sb w g.v g.ds
theorem FsL.up {w w' : World} {a : Option Addr} {fs : List GF} {c : Nat} (h : FsL w a fs c) (u : Up w w') : FsL w' a fs c :=
  ⟨h.cap, fun i hi => by
    obtain ⟨b, off, e, h1, h2⟩ := h.cells i hi
    exact ⟨b, off, e, u.cell h1, u.cell h2⟩, fun g hg => (h.sb g hg).up u⟩
/-- a file on which nothing is loose -/
abbrev ftd (F : Nat) (v1 v2 : Value) (ds : List UInt8) : FL := ⟨F, v1, v2, .slice none 0 0, ds, ds, []⟩
theorem ftd_ok {w : World} {B F : Nat} {v1 v2 : Value} {ds : List UInt8} (h : At w F 95 [v1, v2, .slice none 0 0]) (hB : B ≤ F) (h1 : Ow w B v1 ds) (h2 : Ow w B v2 ds) (ha : ∀ g, v1.ownBlock = some g → v2.ownBlock ≠ some g) : FOk w B (ftd F v1 v2 ds) :=
  ⟨hB, h, h1, h2, ha, World.ownsRow_nil _ _ _ _, fun l hl => by cases hl⟩
/-- a disk under the hands of laid -/
structure LJ (W w : World) (D M room : Nat) (dm : DataW Unit) (nf : List (List UInt8 × FL)) : Prop where
  disk : At w D 85 [.int .i64 (room : Int), .int .i64 (usd nf : Int), .bool false, .map (some M), .map none, .slice none 0 0, .slice none 0 0, .int .i64 0, .int .i64 0, .int .i64 0, .int .i64 0, .int .i64 0]
  low : W.heap.size ≤ D ∧ W.heap.size ≤ M
  map : OM w M nf.length dm
  isn : MN dm nf
  nd : (nf.map (·.1)).Nodup
  nms : ∀ p ∈ nf, isNm p.1 = true
  fok : ∀ p ∈ nf, FOk w W.heap.size p.2
  fnd : (nf.map (·.2.b)).Nodup
  apart : ∀ p ∈ nf, ∀ q ∈ nf, p.2.b ≠ q.2.b → ∀ k ∈ fbs p.2, k ∉ fbs q.2
  new : ∀ p ∈ nf, ∀ k ∈ fbs p.2, W.heap.size ≤ k
  sz : ∀ p ∈ nf, p.2.nb.length ≤ 1099511627776 ∧ p.2.lb = p.2.nb ∧ p.2.lo = [] ∧ p.2.vo = .slice none 0 0
  up : Up W w
theorem LJ.upTo {W w w' : World} {D M room : Nat} {dm : DataW Unit} {nf : List (List UInt8 × FL)} (h : LJ W w D M room dm nf) (u : Up w w') : LJ W w' D M room dm nf :=
  ⟨h.disk.up u, h.low, h.map.up u, h.isn, h.nd, h.nms, fun p hp => (h.fok p hp).up u, h.fnd, h.apart, h.new, h.sz, h.up.trans u⟩
theorem ftd_bs {F : Nat} {v1 v2 : Value} {ds : List UInt8} {k : Nat} (h : k ∈ fbs (ftd F v1 v2 ds)) : k = F ∨ v1.ownBlock = some k ∨ v2.ownBlock = some k := by
  unfold fbs at h
  simp only [List.mem_cons, List.mem_append, mem_vbs, List.flatMap_nil, List.not_mem_nil, or_false] at h
  rcases h with h | h | h | h
  · exact .inl h
  · exact .inr (.inl h)
  · exact .inr (.inr h)
  · cases h
/-- one file more: the map is put, then the sum -/
theorem LJ.step {W w w3 : World} {D M room F N : Nat} {dm : DataW Unit} {nf : List (List UInt8 × FL)} {nm : ByteArray} {v1 v2 : Value} {ds : List UInt8} (h : LJ W w D M room dm nf) (hn : isNm nm.data.toList = true) (hnew : nm.data.toList ∉ nf.map (·.1)) (hl : ds.length ≤ 1099511627776) (hN : ∀ p ∈ nf, ∀ k ∈ fbs p.2, k < N) (hDM : D < N ∧ M < N) (hWN : W.heap.size ≤ N)
    (hF : At w F 95 [v1, v2, .slice none 0 0]) (hFN : N ≤ F) (h1 : Ow w N v1 ds) (h2 : Ow w N v2 ds) (ha : ∀ g, v1.ownBlock = some g → v2.ownBlock ≠ some g) (o3 : OM w3 M (nf.length + 1) (dm.put (kS nm) (fd F))) (g3 : w.grownBy w3 (some M)) :
    LJ W ((w3.setCell ⟨D, 1, none⟩ (.int .i64 ((usd nf : Int) + (ds.length : Int))))) D M room (dm.put (kS nm) (fd F)) (nf ++ [(nm.data.toList, ftd F v1 v2 ds)]) := by
  have tM := map_tg h.map
  have f1 : Fr (fun k => k = M) w w3 := (Fr.refl (fun k => k = M) w).by g3 (fun k hk => .inl (Option.some.inj hk).symm)
  have kM : ∀ k e, tagOf w k = some e → ¬ k = M := fun k e hk e2 => by rw [e2, tM] at hk; cases hk
  have d3 := f1.at h.disk (kM _ _ h.disk.tg)
  have g4 := grown_at w3 D 1 (.int .i64 ((usd nf : Int) + (ds.length : Int)))
  have f2 : Fr (fun k => k = D) w3 (w3.setCell ⟨D, 1, none⟩ (.int .i64 ((usd nf : Int) + (ds.length : Int)))) := (Fr.refl (fun k => k = D) w3).by g4 (fun k hk => .inl (Option.some.inj hk).symm)
  have d4 := d3.set 1 (.int .i64 ((usd nf : Int) + (ds.length : Int)))
  have fk : ∀ f, FOk w W.heap.size f → FOk (w3.setCell ⟨D, 1, none⟩ (.int .i64 ((usd nf : Int) + (ds.length : Int)))) W.heap.size f := fun f hf => by
    have hf3 := hf.fr f1 (fun b hb e => by obtain ⟨e0, _, he0⟩ := hf.tg b hb; exact kM b e0 he0 e)
    exact hf3.fr f2 (fun b hb e => by
      have e : b = D := e
      subst e
      exact hf3.out hb d3.tg (by decide))
  have fnw := fk _ (ftd_ok hF (Nat.le_trans hWN hFN) (ow_base h1 hWN) (ow_base h2 hWN) ha)
  have nwN : ∀ k ∈ fbs (ftd F v1 v2 ds), N ≤ k := fun k hk => by
    rcases ftd_bs hk with hk | hk | hk
    · omega
    · exact (World.ownsRow.lt h1 k hk).1
    · exact (World.ownsRow.lt h2 k hk).1
  have hmem : ∀ p ∈ nf ++ [(nm.data.toList, ftd F v1 v2 ds)], p ∈ nf ∨ p = (nm.data.toList, ftd F v1 v2 ds) := fun p hp => (List.mem_append.1 hp).imp id List.mem_singleton.1
  have hU : Up W (w3.setCell ⟨D, 1, none⟩ (.int .i64 ((usd nf : Int) + (ds.length : Int)))) := (h.up.by g3 (fun g hg => by have := Option.some.inj hg; have := h.low.2; omega)).by g4 (fun g hg => by have := Option.some.inj hg; have := h.low.1; omega)
  refine ⟨?_, h.low, ?_, ?_, ?_, ?_, ?_, ?_, ?_, ?_, ?_, hU⟩
  · have e : ((usd (nf ++ [(nm.data.toList, ftd F v1 v2 ds)]) : Nat) : Int) = (usd nf : Int) + (ds.length : Int) := by
      rw [usd_append, usd_cons]
      have : usd [] = 0 := rfl
      simp only [this]
      omega
    rw [e]
    exact d4
  · rw [List.length_append]
    refine World.ownsMap.kept o3 g4 (fun e => ?_)
    have e : M = D := Option.some.inj e
    have := h.disk.tg
    rw [← e, tM] at this
    cases this
  · have := h.isn.put (World.ownsMap.isMap h.map) nm.data.toList (ftd F v1 v2 ds)
    rw [drp_no hnew] at this
    exact this
  · rw [List.map_append, List.nodup_append]
    exact ⟨h.nd, by simp, fun a ha b hb e => hnew (by simp only [List.map_cons, List.map_nil, List.mem_singleton] at hb; rw [← hb, ← e]; exact ha)⟩
  · intro p hp
    rcases hmem p hp with hp | rfl
    · exact h.nms p hp
    · exact hn
  · intro p hp
    rcases hmem p hp with hp | rfl
    · exact fk _ (h.fok p hp)
    · exact fnw
  · rw [List.map_append, List.nodup_append]
    refine ⟨h.fnd, by simp, fun a ha b hb e => ?_⟩
    obtain ⟨p, hp, rfl⟩ := List.mem_map.1 ha
    simp only [List.map_cons, List.map_nil, List.mem_singleton] at hb
    have := hN p hp p.2.b List.mem_cons_self
    omega
  · intro p hp q hq hne k hk hk'
    rcases hmem p hp with hp | rfl
    · rcases hmem q hq with hq | rfl
      · exact h.apart p hp q hq hne k hk hk'
      · have := hN p hp k hk; have := nwN k hk'; omega
    · rcases hmem q hq with hq | rfl
      · have := hN q hq k hk'; have := nwN k hk; omega
      · exact hne rfl
  · intro p hp k hk
    rcases hmem p hp with hp | rfl
    · exact h.new p hp k hk
    · exact Nat.le_trans hWN (nwN k hk)
  · intro p hp
    rcases hmem p hp with hp | rfl
    · exact h.sz p hp
    · exact ⟨hl, rfl, rfl, rfl⟩
end Go.Proofs.YtaibjeehjhlicaaGreatDoor
