import Derived.Test.YtaibjeehjhlicaaDoorYay
namespace Go.Proofs.YtaibjeehjhlicaaDoor
open Go.RowKit Go.Shelf TextNum ModNum
/-- a file as it is told or handed in -/
structure GF where
  nm : ByteArray
  v : Value
  ds : List UInt8
structure FsL (w : World) (a : Option Addr) (fs : List GF) (c : Nat) : Prop where
  cap : fs.length ≤ c
  cells : ∀ i (h : i < fs.length), ∃ b off, a = some ⟨b, off, none⟩ ∧ w.cell? ⟨b, off + i * 2, none⟩ = some (.string fs[i].nm) ∧ w.cell? ⟨b, off + i * 2 + 1, none⟩ = some fs[i].v
  sb : ∀ g ∈ fs, Sb w g.v g.ds
theorem FsL.up {w w' : World} {a : Option Addr} {fs : List GF} {c : Nat} (h : FsL w a fs c) (u : Up w w') : FsL w' a fs c :=
  ⟨h.cap, fun i hi => by
    obtain ⟨b, off, e, h1, h2⟩ := h.cells i hi
    exact ⟨b, off, e, u.cell h1, u.cell h2⟩, fun g hg => (h.sb g hg).up u⟩
/-- a file on which nothing is loose -/
abbrev ftd (F : Nat) (v1 v2 : Value) (ds : List UInt8) : FL := ⟨F, v1, v2, .slice none 0 0, ds, ds, []⟩
theorem ftd_ok {w : World} {B F : Nat} {v1 v2 : Value} {ds : List UInt8} (h : At w F 51 [v1, v2, .slice none 0 0]) (hB : B ≤ F) (h1 : Ow w B v1 ds) (h2 : Ow w B v2 ds) (ha : ∀ g, v1.ownBlock = some g → v2.ownBlock ≠ some g) : FOk w B (ftd F v1 v2 ds) :=
  ⟨hB, h, h1, h2, ha, World.ownsRow_nil _ _ _ _, fun l hl => by cases hl⟩
/-- a disk under the hands of laid -/
structure LJ (W w : World) (D M room : Nat) (dm : DataW Unit) (nf : List (List UInt8 × FL)) : Prop where
  disk : At w D 58 [.int .i64 (room : Int), .int .i64 (usd nf : Int), .bool false, .map (some M), .map none, .slice none 0 0, .slice none 0 0, .int .i64 0, .int .i64 0, .int .i64 0, .int .i64 0, .int .i64 0]
  low : W.heap.size ≤ D ∧ W.heap.size ≤ M
  map : OM w M nf.length dm
  isn : MN dm nf
  nd : (nf.map (·.1)).Nodup
  nms : ∀ p ∈ nf, isNm p.1 = true
  fok : ∀ p ∈ nf, FOk w W.heap.size p.2
  fnd : (nf.map (·.2.b)).Nodup
  apart : ∀ p ∈ nf, ∀ q ∈ nf, p.2.b ≠ q.2.b → ∀ k ∈ fbs p.2, k ∉ fbs q.2
  new : ∀ p ∈ nf, ∀ k ∈ fbs p.2, W.heap.size ≤ k
  sz : ∀ p ∈ nf, p.2.nb.length ≤ 1099511627776 ∧ p.2.lb = p.2.nb ∧ p.2.lo = [] ∧ p.2.vo = .slice none 0 0
  up : Up W w
theorem LJ.upTo {W w w' : World} {D M room : Nat} {dm : DataW Unit} {nf : List (List UInt8 × FL)} (h : LJ W w D M room dm nf) (u : Up w w') : LJ W w' D M room dm nf :=
  ⟨h.disk.up u, h.low, h.map.up u, h.isn, h.nd, h.nms, fun p hp => (h.fok p hp).up u, h.fnd, h.apart, h.new, h.sz, h.up.trans u⟩
theorem ftd_bs {F : Nat} {v1 v2 : Value} {ds : List UInt8} {k : Nat} (h : k ∈ fbs (ftd F v1 v2 ds)) : k = F ∨ v1.ownBlock = some k ∨ v2.ownBlock = some k := by
  unfold fbs at h
  simp only [List.mem_cons, List.mem_append, mem_vbs, List.flatMap_nil, List.not_mem_nil, or_false] at h
  rcases h with h | h | h | h
  · exact .inl h
  · exact .inr (.inl h)
  · exact .inr (.inr h)
  · cases h
/-- one file more: the map is put, then the sum -/
theorem LJ.step {W w w3 : World} {D M room F N : Nat} {dm : DataW Unit} {nf : List (List UInt8 × FL)} {nm : ByteArray} {v1 v2 : Value} {ds : List UInt8} (h : LJ W w D M room dm nf) (hn : isNm nm.data.toList = true) (hnew : nm.data.toList ∉ nf.map (·.1)) (hl : ds.length ≤ 1099511627776) (hN : ∀ p ∈ nf, ∀ k ∈ fbs p.2, k < N) (hDM : D < N ∧ M < N) (hWN : W.heap.size ≤ N)
    (hF : At w F 51 [v1, v2, .slice none 0 0]) (hFN : N ≤ F) (h1 : Ow w N v1 ds) (h2 : Ow w N v2 ds) (ha : ∀ g, v1.ownBlock = some g → v2.ownBlock ≠ some g) (o3 : OM w3 M (nf.length + 1) (dm.put (kS nm) (fd F))) (g3 : w.grownBy w3 (some M)) :
    LJ W ((w3.setCell ⟨D, 1, none⟩ (.int .i64 ((usd nf : Int) + (ds.length : Int))))) D M room (dm.put (kS nm) (fd F)) (nf ++ [(nm.data.toList, ftd F v1 v2 ds)]) := by
  have tM := map_tg h.map
  have f1 : Fr (fun k => k = M) w w3 := (Fr.refl (fun k => k = M) w).by g3 (fun k hk => .inl (Option.some.inj hk).symm)
  have kM : ∀ k e, tagOf w k = some e → ¬ k = M := fun k e hk e2 => by rw [e2, tM] at hk; cases hk
  have d3 := f1.at h.disk (kM _ _ h.disk.tg)
  have g4 := grown_at w3 D 1 (.int .i64 ((usd nf : Int) + (ds.length : Int)))
  have f2 : Fr (fun k => k = D) w3 (w3.setCell ⟨D, 1, none⟩ (.int .i64 ((usd nf : Int) + (ds.length : Int)))) := (Fr.refl (fun k => k = D) w3).by g4 (fun k hk => .inl (Option.some.inj hk).symm)
  have d4 := d3.set 1 (.int .i64 ((usd nf : Int) + (ds.length : Int)))
  have fk : ∀ f, FOk w W.heap.size f → FOk (w3.setCell ⟨D, 1, none⟩ (.int .i64 ((usd nf : Int) + (ds.length : Int)))) W.heap.size f := fun f hf => by
    have hf3 := hf.fr f1 (fun b hb e => by obtain ⟨e0, _, he0⟩ := hf.tg b hb; exact kM b e0 he0 e)
    exact hf3.fr f2 (fun b hb e => by
      have e : b = D := e
      subst e
      exact hf3.out hb d3.tg (by decide))
  have fnw := fk _ (ftd_ok hF (Nat.le_trans hWN hFN) (ow_base h1 hWN) (ow_base h2 hWN) ha)
  have nwN : ∀ k ∈ fbs (ftd F v1 v2 ds), N ≤ k := fun k hk => by
    rcases ftd_bs hk with hk | hk | hk
    · omega
    · exact (World.ownsRow.lt h1 k hk).1
    · exact (World.ownsRow.lt h2 k hk).1
  have hmem : ∀ p ∈ nf ++ [(nm.data.toList, ftd F v1 v2 ds)], p ∈ nf ∨ p = (nm.data.toList, ftd F v1 v2 ds) := fun p hp => (List.mem_append.1 hp).imp id List.mem_singleton.1
  have hU : Up W (w3.setCell ⟨D, 1, none⟩ (.int .i64 ((usd nf : Int) + (ds.length : Int)))) := (h.up.by g3 (fun g hg => by have := Option.some.inj hg; have := h.low.2; omega)).by g4 (fun g hg => by have := Option.some.inj hg; have := h.low.1; omega)
  refine ⟨?_, h.low, ?_, ?_, ?_, ?_, ?_, ?_, ?_, ?_, ?_, hU⟩
  · have e : ((usd (nf ++ [(nm.data.toList, ftd F v1 v2 ds)]) : Nat) : Int) = (usd nf : Int) + (ds.length : Int) := by
      rw [usd_append, usd_cons]
      have : usd [] = 0 := rfl
      simp only [this]
      omega
    rw [e]
    exact d4
  · rw [List.length_append]
    refine World.ownsMap.kept o3 g4 (fun e => ?_)
    have e : M = D := Option.some.inj e
    have := h.disk.tg
    rw [← e, tM] at this
    cases this
  · have := h.isn.put (World.ownsMap.isMap h.map) nm.data.toList (ftd F v1 v2 ds)
    rw [drp_no hnew] at this
    exact this
  · rw [List.map_append, List.nodup_append]
    exact ⟨h.nd, by simp, fun a ha b hb e => hnew (by simp only [List.map_cons, List.map_nil, List.mem_singleton] at hb; rw [← hb, ← e]; exact ha)⟩
  · intro p hp
    rcases hmem p hp with hp | rfl
    · exact h.nms p hp
    · exact hn
  · intro p hp
    rcases hmem p hp with hp | rfl
    · exact fk _ (h.fok p hp)
    · exact fnw
  · rw [List.map_append, List.nodup_append]
    refine ⟨h.fnd, by simp, fun a ha b hb e => ?_⟩
    obtain ⟨p, hp, rfl⟩ := List.mem_map.1 ha
    simp only [List.map_cons, List.map_nil, List.mem_singleton] at hb
    have := hN p hp p.2.b List.mem_cons_self
    omega
  · intro p hp q hq hne k hk hk'
    rcases hmem p hp with hp | rfl
    · rcases hmem q hq with hq | rfl
      · exact h.apart p hp q hq hne k hk hk'
      · have := hN p hp k hk; have := nwN k hk'; omega
    · rcases hmem q hq with hq | rfl
      · have := hN q hq k hk'; have := nwN k hk; omega
      · exact hne rfl
  · intro p hp k hk
    rcases hmem p hp with hp | rfl
    · exact h.new p hp k hk
    · exact Nat.le_trans hWN (nwN k hk)
  · intro p hp
    rcases hmem p hp with hp | rfl
    · exact h.sz p hp
    · exact ⟨hl, rfl, rfl, rfl⟩
end Go.Proofs.YtaibjeehjhlicaaDoor
