import Derived.Test.YtepakbghhnkcfaaDoorGr
import Derived.Test.YtepakbghhnkcfaaDoorJe
import Derived.Maps.OwnOps
namespace Go.Proofs.YtepakbghhnkcfaaDoor
open Go.RowKit Go.Shelf TextNum ModNum
/-- a file as it is told or handed in -/
structure GF where
  nm : ByteArray
  v : Value
  ds : List UInt8
structure FsL (w : World) (a : Option Addr) (fs : List GF) (c : Nat) : Prop where
  cap : fs.length ≤ c
  cells : ∀ i (h : i < fs.length), ∃ b off, a = some ⟨b, off, none⟩ ∧ w.cell? ⟨b, off + i * 2, none⟩ = some (.string fs[i].nm) ∧ w.cell? ⟨b, off + i * 2 + 1, none⟩ = some fs[i].v
  sb : ∀ g ∈ fs, Sb w g.v g.ds
theorem FsL.up {w w' : World} {a : Option Addr} {fs : List GF} {c : Nat} (h : FsL w a fs c) (u : Up w w') : FsL w' a fs c :=
  ⟨h.cap, fun i hi => by
    obtain ⟨b, off, e, h1, h2⟩ := h.cells i hi
    exact ⟨b, off, e, u.cell h1, u.cell h2⟩, fun g hg => (h.sb g hg).up u⟩
/-- a file on which nothing is loose -/
abbrev ftd (F : Nat) (v1 v2 : Value) (ds : List UInt8) : FL := ⟨F, v1, v2, .slice none 0 0, ds, ds, []⟩
theorem ftd_ok {w : World} {B F : Nat} {v1 v2 : Value} {ds : List UInt8} (h : At w F 69 [v1, v2, .slice none 0 0]) (hB : B ≤ F) (h1 : Ow w B v1 ds) (h2 : Ow w B v2 ds) (ha : ∀ g, v1.ownBlock = some g → v2.ownBlock ≠ some g) : FOk w B (ftd F v1 v2 ds) :=
  ⟨hB, h, h1, h2, ha, World.ownsRow_nil _ _ _ _, fun l hl => by cases hl⟩
/-- a disk under the hands of laid -/
structure LJ (W w : World) (D M room : Nat) (dm : DataW Unit) (nf : List (List UInt8 × FL)) : Prop where
  disk : At w D 82 [.int .i64 (room : Int), .int .i64 (usd nf : Int), .bool false, .map (some M), .map none, .slice none 0 0, .slice none 0 0, .int .i64 0, .int .i64 0, .int .i64 0, .int .i64 0, .int .i64 0]
  low : W.heap.size ≤ D ∧ W.heap.size ≤ M
  map : OM w M nf.length dm
  isn : MN dm nf
  nd : (nf.map (·.1)).Nodup
  nms : ∀ p ∈ nf, isNm p.1 = true
  fok : ∀ p ∈ nf, FOk w W.heap.size p.2
  fnd : (nf.map (·.2.b)).Nodup
  apart : ∀ p ∈ nf, ∀ q ∈ nf, p.2.b ≠ q.2.b → ∀ k ∈ fbs p.2, k ∉ fbs q.2
  new : ∀ p ∈ nf, ∀ k ∈ fbs p.2, W.heap.size ≤ k
  sz : ∀ p ∈ nf, p.2.nb.length ≤ 1099511627776 ∧ p.2.lb = p.2.nb ∧ p.2.lo = [] ∧ p.2.vo = .slice none 0 0
  up : Up W w
theorem LJ.upTo {W w w' : World} {D M room : Nat} {dm : DataW Unit} {nf : List (List UInt8 × FL)} (h : LJ W w D M room dm nf) (u : Up w w') : LJ W w' D M room dm nf :=
  ⟨h.disk.up u, h.low, h.map.up u, h.isn, h.nd, h.nms, fun p hp => (h.fok p hp).up u, h.fnd, h.apart, h.new, h.sz, h.up.trans u⟩
theorem ftd_bs {F : Nat} {v1 v2 : Value} {ds : List UInt8} {k : Nat} (h : k ∈ fbs (ftd F v1 v2 ds)) : k = F ∨ v1.ownBlock = some k ∨ v2.ownBlock = some k := by
  unfold fbs at h
  simp only [List.mem_cons, List.mem_append, mem_vbs, List.flatMap_nil, List.not_mem_nil, or_false] at h
  rcases h with h | h | h | h
  · exact .inl h
  · exact .inr (.inl h)
  · exact .inr (.inr h)
  · cases h
/-- one file more: the map is put, then the sum -/
theorem LJ.step {W w w3 : World} {D M room F N : Nat} {dm : DataW Unit} {nf : List (List UInt8 × FL)} {nm : ByteArray} {v1 v2 : Value} {ds : List UInt8} (h : LJ W w D M room dm nf) (hn : isNm nm.data.toList = true) (hnew : nm.data.toList ∉ nf.map (·.1)) (hl : ds.length ≤ 1099511627776) (hN : ∀ p ∈ nf, ∀ k ∈ fbs p.2, k < N) (hDM : D < N ∧ M < N) (hWN : W.heap.size ≤ N)
    (hF : At w F 69 [v1, v2, .slice none 0 0]) (hFN : N ≤ F) (h1 : Ow w N v1 ds) (h2 : Ow w N v2 ds) (ha : ∀ g, v1.ownBlock = some g → v2.ownBlock ≠ some g) (o3 : OM w3 M (nf.length + 1) (dm.put (kS nm) (fd F))) (g3 : w.grownBy w3 (some M)) :
    LJ W ((w3.setCell ⟨D, 1, none⟩ (.int .i64 ((usd nf : Int) + (ds.length : Int))))) D M room (dm.put (kS nm) (fd F)) (nf ++ [(nm.data.toList, ftd F v1 v2 ds)]) := by
  have tM := map_tg h.map
  have f1 : Fr (fun k => k = M) w w3 := (Fr.refl (fun k => k = M) w).by g3 (fun k hk => .inl (Option.some.inj hk).symm)
  have kM : ∀ k e, tagOf w k = some e → ¬ k = M := fun k e hk e2 => by rw [e2, tM] at hk; cases hk
  have d3 := f1.at h.disk (kM _ _ h.disk.tg)
  have g4 := grown_at w3 D 1 (.int .i64 ((usd nf : Int) + (ds.length : Int)))
  have f2 : Fr (fun k => k = D) w3 (w3.setCell ⟨D, 1, none⟩ (.int .i64 ((usd nf : Int) + (ds.length : Int)))) := (Fr.refl (fun k => k = D) w3).by g4 (fun k hk => .inl (Option.some.inj hk).symm)
  have d4 := d3.set 1 (.int .i64 ((usd nf : Int) + (ds.length : Int)))
  have fk : ∀ f, FOk w W.heap.size f → FOk (w3.setCell ⟨D, 1, none⟩ (.int .i64 ((usd nf : Int) + (ds.length : Int)))) W.heap.size f := fun f hf => by
    have hf3 := hf.fr f1 (fun b hb e => by obtain ⟨e0, _, he0⟩ := hf.tg b hb; exact kM b e0 he0 e)
    exact hf3.fr f2 (fun b hb e => by
      have e : b = D := e
      subst e
      exact hf3.out hb d3.tg (by decide))
  have fnw := fk _ (ftd_ok hF (Nat.le_trans hWN hFN) (ow_base h1 hWN) (ow_base h2 hWN) ha)
  have nwN : ∀ k ∈ fbs (ftd F v1 v2 ds), N ≤ k := fun k hk => by
    rcases ftd_bs hk with hk | hk | hk
    · omega
    · exact (World.ownsRow.lt h1 k hk).1
    · exact (World.ownsRow.lt h2 k hk).1
  have hmem : ∀ p ∈ nf ++ [(nm.data.toList, ftd F v1 v2 ds)], p ∈ nf ∨ p = (nm.data.toList, ftd F v1 v2 ds) := fun p hp => (List.mem_append.1 hp).imp id List.mem_singleton.1
  have hU : Up W (w3.setCell ⟨D, 1, none⟩ (.int .i64 ((usd nf : Int) + (ds.length : Int)))) := (h.up.by g3 (fun g hg => by have := Option.some.inj hg; have := h.low.2; omega)).by g4 (fun g hg => by have := Option.some.inj hg; have := h.low.1; omega)
  refine ⟨?_, h.low, ?_, ?_, ?_, ?_, ?_, ?_, ?_, ?_, ?_, hU⟩
  · have e : ((usd (nf ++ [(nm.data.toList, ftd F v1 v2 ds)]) : Nat) : Int) = (usd nf : Int) + (ds.length : Int) := by
      rw [usd_append, usd_cons]
      have : usd [] = 0 := rfl
      simp only [this]
      omega
    rw [e]
    exact d4
  · rw [List.length_append]
    refine World.ownsMap.kept o3 g4 (fun e => ?_)
    have e : M = D := Option.some.inj e
    have := h.disk.tg
    rw [← e, tM] at this
    cases this
  · have := h.isn.put (World.ownsMap.isMap h.map) nm.data.toList (ftd F v1 v2 ds)
    rw [drp_no hnew] at this
    exact this
  · rw [List.map_append, List.nodup_append]
    exact ⟨h.nd, by simp, fun a ha b hb e => hnew (by simp only [List.map_cons, List.map_nil, List.mem_singleton] at hb; rw [← hb, ← e]; exact ha)⟩
  · intro p hp
    rcases hmem p hp with hp | rfl
    · exact h.nms p hp
    · exact hn
  · intro p hp
    rcases hmem p hp with hp | rfl
    · exact fk _ (h.fok p hp)
    · exact fnw
  · rw [List.map_append, List.nodup_append]
    refine ⟨h.fnd, by simp, fun a ha b hb e => ?_⟩
    obtain ⟨p, hp, rfl⟩ := List.mem_map.1 ha
    simp only [List.map_cons, List.map_nil, List.mem_singleton] at hb
    have := hN p hp p.2.b List.mem_cons_self
    omega
  · intro p hp q hq hne k hk hk'
    rcases hmem p hp with hp | rfl
    · rcases hmem q hq with hq | rfl
      · exact h.apart p hp q hq hne k hk hk'
      · have := hN p hp k hk; have := nwN k hk'; omega
    · rcases hmem q hq with hq | rfl
      · have := hN q hq k hk'; have := nwN k hk; omega
      · exact hne rfl
  · intro p hp k hk
    rcases hmem p hp with hp | rfl
    · exact h.new p hp k hk
    · exact Nat.le_trans hWN (nwN k hk)
  · intro p hp
    rcases hmem p hp with hp | rfl
    · exact h.sz p hp
    · exact ⟨hl, rfl, rfl, rfl⟩
end Go.Proofs.YtepakbghhnkcfaaDoor
namespace Go.Proofs.YtepakbghhnkcfaaDoor
open Go.RowKit Go.Shelf TextNum ModNum
abbrev Som2 (R : Value → Value → Nat → World → Prop) (A : Value → Value → Nat → World → Act) (W : Value → Value → Nat → World → World) : Exit → Act → World → Prop
  | .normal, a, w => ∃ x y n u, R x y n u ∧ a = A x y n u ∧ w = W x y n u
  | _, _, _ => False
theorem wp_som2 {P : Program} {c : Code} {Q : Exit → Act → World → Prop} {a : Act} {w : World} (R : Value → Value → Nat → World → Prop) (A : Value → Value → Nat → World → Act) (W : Value → Value → Nat → World → World) (h : c.wp P (Som2 R A W) a w) (k : ∀ x y n u, R x y n u → Q Exit.normal (A x y n u) (W x y n u)) : c.wp P Q a w :=
  Code.wp_mono (fun e a' w' h => by
    cases e with
    | normal => obtain ⟨x, y, n, u, hR, rfl, rfl⟩ := h; exact k x y n u hR
    | _ => exact h.elim) h
set_option maxRecDepth 100000 in
theorem infoFile : (Tryd.prog.info? 51).map (·.size) = some 2 := by kernel_rfl
theorem exec_idxFile {o : Oper} {ρ : Operand → Value} {x y : Operand} {w : World} {b off n c : Nat} (i : Nat) (hi : i < n) (ho : o.op = .indexAddr 52 x y) (hx : ρ x = .slice (some ⟨b, off, none⟩) n c) (hy : ρ y = .int .i64 (i : Int)) : (execOp ρ o).run Tryd.prog w = .ok (.value (.pointer (some ⟨b, off + i * 2, none⟩))) w := by
  have hi' : (i : Int) < (n : Int) := by omega
  unfold execOp
  simp only [ho, hx, hy]
  go_simp
theorem wpList_val7' {ops : Array Oper} {Q : Exit → Act → World → Prop} {rest : List Oper} {o : Oper} {a : Act} {w : World} (v : Value) (hgd : o.guard = none) (hy : (execOp a.eval o).run Tryd.prog w = .ok (.value v) w)
    (h : wpList Tryd.prog ops Q rest (a.put o.dst v) w) : wpList Tryd.prog ops Q (o :: rest) a w :=
  wpList_plain hgd fun K hK => by
    unfold Oper.wp
    rw [hy]
    exact hK _ _ h
theorem all2 {x y : Value} (h1 : x.oneCell' = true) (h2 : y.oneCell' = true) : ([x, y].toArray.all (·.oneCell')) = true := by simp [h1, h2]
theorem range2 {w : World} {b off : Nat} {x y : Value} (h1 : w.cell? ⟨b, off, none⟩ = some x) (h2 : w.cell? ⟨b, off + 1, none⟩ = some y) : w.rangeAt b off [x, y] := fun j v hj => by
  match j, hj with
  | 0, hj => simp at hj; subst hj; exact h1
  | 1, hj => simp at hj; subst hj; exact h2
  | j + 2, hj => simp at hj
/-- what laid has made of the first files -/
def LD (fs : List GF) (nf : List (List UInt8 × FL)) : Prop := nf.map (fun p => (p.1, p.2.nb)) = fs.map fun g => (g.nm.data.toList, g.ds)
theorem LD.keys {fs : List GF} {nf : List (List UInt8 × FL)} (h : LD fs nf) : nf.map (·.1) = fs.map fun g => g.nm.data.toList := by
  have := congrArg (List.map Prod.fst) h
  simp only [List.map_map] at this
  exact this
theorem LD.len {fs : List GF} {nf : List (List UInt8 × FL)} (h : LD fs nf) : nf.length = fs.length := by
  have := congrArg List.length h
  simpa using this
theorem LD.usd {fs : List GF} {nf : List (List UInt8 × FL)} (h : LD fs nf) : usd nf = (fs.map fun g => g.ds.length).sum := by
  unfold Go.Proofs.YtepakbghhnkcfaaDoor.usd
  have := congrArg (List.map fun q : List UInt8 × List UInt8 => q.2.length) h
  simp only [List.map_map] at this
  have e : (nf.map fun p => p.2.nb.length) = fs.map fun g => g.ds.length := this
  rw [e]
theorem LD.snoc {fs : List GF} {nf : List (List UInt8 × FL)} {j : Nat} (hj : j < fs.length) (h : LD (fs.take j) nf) {F : Nat} {v1 v2 : Value} : LD (fs.take (j + 1)) (nf ++ [(fs[j].nm.data.toList, ftd F v1 v2 fs[j].ds)]) := by
  unfold LD at h ⊢
  rw [List.take_succ_eq_append_getElem hj, List.map_append, List.map_append, h]
  rfl
theorem sum_take_le (l : List Nat) (j : Nat) : (l.take j).sum ≤ l.sum := by
  have h := congrArg List.sum (List.take_append_drop j l)
  rw [List.sum_append] at h
  omega
set_option maxRecDepth 100000 in
set_option maxHeartbeats 4000000 in
theorem laid_raw (room : Nat) (a : Option Addr) (fs : List GF) (c : Nat) (w : World) (hF : FsL w a fs c) (hnm : ∀ g ∈ fs, isNm g.nm.data.toList = true) (hnd : (fs.map fun g => g.nm.data.toList).Nodup) (hsz : (fs.map fun g => g.ds.length).sum ≤ 1099511627776) (hlen : fs.length ≤ 1000000) :
    Calls Tryd.prog 49 #[.int .i64 (room : Int), .slice a fs.length c] w fun e w' => ∃ D M L dm nf, e = .returned (pv D) ∧ ∃ w1, LJ w w1 D M room dm nf ∧ LD fs nf ∧ OM w1 L nf.length dm ∧ w.heap.size ≤ L ∧ M ≠ L ∧ w' = w1.setCell ⟨D, 4, none⟩ (.map (some L)) := by
  have hmk := fun w' => run_mkMap (P := Tryd.prog) 72 9 66 Tryd.underlying72 fs.length w'
  have hM := World.ownsMap_made w Tryd.prog 9 rp
  have hU1 := (Up.refl w).alloc (.map #[] 0)
  have hs := alloc_size w (.map #[] 0)
  have hA := at_new (w.alloc (.map #[] 0)) 82 (d0c room w.heap.size (.map none) (.slice none 0 0) 0)
  have hU2 := hU1.alloc (.cells (d0c room w.heap.size (.map none) (.slice none 0 0) 0).toArray 82)
  have hM2 : OM _ w.heap.size 0 (.map []) := World.ownsMap.alloc hM (.cells (d0c room w.heap.size (.map none) (.slice none 0 0) 0).toArray 82)
  rw [hs] at hA
  have HJ0 := Hid.of (show LJ w ((w.alloc (.map #[] 0)).alloc (.cells (d0c room w.heap.size (.map none) (.slice none 0 0) 0).toArray 82)) (w.heap.size + 1) w.heap.size room (.map []) [] from
    ⟨hA, ⟨by omega, Nat.le_refl _⟩, hM2, ⟨fun x => by simp [Maps.has_eq], fun p hp => by cases hp⟩, List.nodup_nil, (fun p hp => by cases hp), (fun p hp => by cases hp), List.nodup_nil, (fun p hp => by cases hp), (fun p hp => by cases hp), (fun p hp => by cases hp), hU2⟩)
  have HF := Hid.of hF
  have HNm := Hid.of hnm
  have HNd := Hid.of hnd
  have HSz := Hid.of hsz
  have hcap := hF.cap
  clear hA hU2 hM2 hM hU1 hs hF hnm hnd hsz
  go_enter Tryd.func49, Tryd.ntmps49
  go_wp2
  have hW : (w.alloc (.map #[] 0)).alloc (.cells (d0c room w.heap.size (.map none) (.slice none 0 0) 0).toArray 82) = (w.alloc (.map #[] 0)).alloc (.cells #[.int .i64 (room : Int), .int .i64 0, .bool false, .map (some w.heap.size), .map none, .slice none 0 0, .slice none 0 0, .int .i64 0, .int .i64 0, .int .i64 0, .int .i64 0, .int .i64 0] 82) := rfl
  rw [hW] at HJ0
  clear hW hmk
  generalize (w.alloc (.map #[] 0)).alloc (.cells #[.int .i64 (room : Int), .int .i64 0, .bool false, .map (some w.heap.size), .map none, .slice none 0 0, .slice none 0 0, .int .i64 0, .int .i64 0, .int .i64 0, .int .i64 0, .int .i64 0] 82) = W2 at *
  obtain ⟨D, hDe⟩ : ∃ D, D = w.heap.size + 1 := ⟨_, rfl⟩
  obtain ⟨M, hMe⟩ : ∃ M, M = w.heap.size := ⟨_, rfl⟩
  rw [← hDe]
  rw [← hDe, ← hMe] at HJ0
  clear hDe hMe
  go_loopw [7, 16] (fun _ v16 wr => ∃ j : Nat, v16 = .int .i64 (j : Int) ∧ j ≤ fs.length ∧ Hid (∃ dm nf, LJ w wr D M room dm nf ∧ LD (fs.take j) nf)) (fun _ v16 _ => fs.length - (intOf v16).toNat)
  case atStart => exact ⟨0, rfl, by omega, Hid.of ⟨_, _, HJ0.out, rfl⟩⟩
  case round =>
    obtain ⟨j, rfl, hj, hQ⟩ := hrel
    obtain ⟨dm, nf, hJ, hLD⟩ := hQ.out
    have HJ := Hid.of hJ
    have HLD := Hid.of hLD
    clear hQ hJ hLD HJ0
    by_cases hjl : j < fs.length
    · have hjz : (j : Int) < (fs.length : Int) := by omega
      obtain ⟨b, off, rfl, k1, k2⟩ := (HF.out.up HJ.out.up).cells j hjl
      have HSb := Hid.of ((HF.out.up HJ.out.up).sb fs[j] (List.getElem_mem hjl))
      have HR := Hid.of (range2 k1 k2)
      have HNj := Hid.of (HNm.out fs[j] (List.getElem_mem hjl))
      have HNew := Hid.of (show fs[j].nm.data.toList ∉ nf.map (·.1) from fun hm => by
        rw [HLD.out.keys] at hm
        obtain ⟨g, hg, e⟩ := List.mem_map.1 hm
        obtain ⟨i, hi, rfl⟩ := List.getElem_of_mem hg
        rw [List.length_take] at hi
        rw [List.getElem_take] at e
        have h3 := List.pairwise_iff_getElem.1 HNd.out i j (by simp; omega) (by simp; omega) (by omega)
        simp only [List.getElem_map] at h3
        exact h3 e)
      have HLs := Hid.of (fun (F : Nat) (v1 v2 : Value) => HLD.out.snoc hjl (F := F) (v1 := v1) (v2 := v2))
      have HBd := Hid.of (show usd nf + fs[j].ds.length ≤ 1099511627776 by
        have h1 := (HLD.out.snoc hjl (F := 0) (v1 := .bool false) (v2 := .bool false)).usd
        rw [usd_append, usd_cons] at h1
        have h2 := sum_take_le (fs.map fun g => g.ds.length) (j + 1)
        rw [← List.map_take] at h2
        have h3 := HSz.out
        have h4 : usd [] = 0 := rfl
        simp only [h4] at h1
        omega)
      obtain ⟨g, hg⟩ : ∃ g, fs[j] = g := ⟨_, rfl⟩
      rw [hg] at HSb HR HNj HNew HLs HBd
      clear k1 k2 hg
      obtain ⟨ag, cg, hvg, _⟩ := id HSb.out
      have HVG := Hid.of hvg
      clear hvg
      go_wp2_with (with_reducible show wpList _ _ _ ({ dst := _, op := Op.indexAddr 52 _ _, type := _, pos := _, after := _, guard := _ } :: _) _ _; refine Shut.out ?_)
      show wpList _ _ _ _ _ _
      refine wpList_val7' (.pointer (some ⟨b, off + j * 2, none⟩)) rfl (exec_idxFile j hjl rfl rfl rfl) ?_
      simp only [Act.put, List.setIfInBounds_toArray, List.set_cons_zero, List.set_cons_succ]
      refine wpList_load_mid rfl _ _ rfl b (off + j * 2) rfl [.string g.nm, g.v] _ HR.out Tryd.underlying51 rfl infoFile ?_
      simp only [Act.put, List.setIfInBounds_toArray, List.set_cons_zero, List.set_cons_succ]
      go_wp2_with (with_reducible show wpList _ _ _ ({ dst := _, op := Op.store 51 _ _, type := _, pos := _, after := _, guard := _ } :: _) _ _; refine Shut.out ?_)
      show wpList _ _ _ _ _ _
      refine wpList_store_at rfl 51 _ _ rfl wr.heap.size (at_new wr 51 [.string ⟨#[]⟩, .slice none 0 0]) [.string g.nm, g.v] rfl rfl rfl infoFile (all2 rfl (by rw [HVG.out]; rfl)) ?_
      intro w4 hA4 hg4
      have HA4 := Hid.of hA4
      have HU4 := Hid.of (((Up.refl wr).alloc (.cells [.string ⟨#[]⟩, .slice none 0 0].toArray 51)).by hg4 (fun g hg => by have := Option.some.inj hg; omega))
      have HN4 := Hid.of (show (∀ p ∈ nf, ∀ k ∈ fbs p.2, k < wr.heap.size) ∧ (D < wr.heap.size ∧ M < wr.heap.size) ∧ w.heap.size ≤ wr.heap.size from ⟨fun p hp k hk => (HJ.out.fok p hp).lt k hk, ⟨lt_of_at HJ.out.disk, World.ownsMap.lt HJ.out.map⟩, HJ.out.up.size⟩)
      generalize wr.heap.size = bo at *
      clear hA4 hg4 HR
      simp only [Act.put]
      have HJ4 := Hid.of (HJ.out.upTo HU4.out)
      have HCl := Hid.of (fun w' (u' : Up w4 w') => Clone_walk g.v g.ds w' ((HSb.out.up HU4.out).up u') (by have := HBd.out; omega))
      have c0 := HA4.out.cell (i := 0) rfl
      have c1 := HA4.out.cell (i := 1) rfl
      have c3 := HJ4.out.disk.cell (i := 3) rfl
      go_wp2
      have hDM : ¬ D = M := fun e => by
        have h1 := HJ4.out.disk.tg
        rw [e, map_tg HJ4.out.map] at h1
        cases h1
      have hbM : ¬ bo = M := fun e => by
        have h1 := HA4.out.tg
        rw [e, map_tg HJ4.out.map] at h1
        cases h1
      clear c0 c1 c3
      refine wp_region_held_drew (S := fun w2 => Fr (fun k => k = M) w4 w2) (by kernel_rfl) ((Fr.refl _ _).up (Up.refl _).drew) (fun hS => ?_)
      refine wpAnyH_take (i := 0) (oi := { dst := some 20, op := Go.Op.move (Go.Operand.tmp 5), type := 24, pos := "disk.go:87", after := #[], guard := none }) (v := pv D) rfl (by kernel_rfl) (by kernel_rfl) (by kernel_rfl) (fun _ _ _ h => h) (Or.inl ⟨by kernel_rfl, ?_⟩) hS ?_
      · intro w5 hSw
        clear hSw hS
        go_simp
      simp only [Act.put, List.setIfInBounds_toArray, List.set_cons_zero, List.set_cons_succ]
      refine wpAnyH_take (i := 1) (oi := { dst := some 21, op := Go.Op.nilCheck (Go.Operand.tmp 20), type := 0, pos := "disk.go:87", after := #[{ on := 0, ground := Go.Ground.data }], guard := none }) (v := pv D) rfl (by kernel_rfl) (by kernel_rfl) (by kernel_rfl) (fun _ _ _ h => h) (Or.inl ⟨by kernel_rfl, ?_⟩) hS ?_
      · intro w5 hSw
        clear hSw hS
        go_simp
      simp only [Act.put, List.setIfInBounds_toArray, List.set_cons_zero, List.set_cons_succ]
      refine wpAnyH_take (i := 2) (oi := { dst := some 22, op := Go.Op.fieldAddr 82 (Go.Operand.tmp 21) 3, type := 0, pos := "disk.go:87", after := #[{ on := 1, ground := Go.Ground.data }], guard := none }) (v := .pointer (some ⟨D, 3, none⟩)) rfl (by kernel_rfl) (by kernel_rfl) (by kernel_rfl) (fun _ _ _ h => h) (Or.inl ⟨by kernel_rfl, ?_⟩) hS ?_
      · intro w5 hSw
        clear hSw hS
        go_simp
      simp only [Act.put, List.setIfInBounds_toArray, List.set_cons_zero, List.set_cons_succ]
      refine wpAnyH_take (i := 3) (oi := { dst := some 23, op := Go.Op.load 72 (Go.Operand.tmp 22), type := 72, pos := "disk.go:87", after := #[{ on := 2, ground := Go.Ground.data }], guard := none }) (v := .map (some M)) rfl (by kernel_rfl) (by kernel_rfl) (by kernel_rfl) (fun _ _ _ h => h) (Or.inl ⟨by kernel_rfl, ?_⟩) hS ?_
      · intro w5 hSw
        have h0 := (hSw.at HJ4.out.disk hDM).cell (i := 3) rfl
        clear hSw hS
        go_simp
      simp only [Act.put, List.setIfInBounds_toArray, List.set_cons_zero, List.set_cons_succ]
      refine wpAnyH_take (i := 4) (oi := { dst := some 24, op := Go.Op.fieldAddr 51 (Go.Operand.tmp 7) 0, type := 0, pos := "disk.go:87", after := #[], guard := none }) (v := .pointer (some ⟨bo, 0, none⟩)) rfl (by kernel_rfl) (by kernel_rfl) (by kernel_rfl) (fun _ _ _ h => h) (Or.inl ⟨by kernel_rfl, ?_⟩) hS ?_
      · intro w5 hSw
        clear hSw hS
        go_simp
      simp only [Act.put, List.setIfInBounds_toArray, List.set_cons_zero, List.set_cons_succ]
      refine wpAnyH_take (i := 5) (oi := { dst := some 25, op := Go.Op.load 9 (Go.Operand.tmp 24), type := 9, pos := "disk.go:87", after := #[{ on := 4, ground := Go.Ground.data }], guard := none }) (v := .string g.nm) rfl (by kernel_rfl) (by kernel_rfl) (by kernel_rfl) (fun _ _ _ h => h) (Or.inl ⟨by kernel_rfl, ?_⟩) hS ?_
      · intro w5 hSw
        have h0 := (hSw.at HA4.out hbM).cell (i := 0) rfl
        clear hSw hS
        go_simp
      simp only [Act.put, List.setIfInBounds_toArray, List.set_cons_zero, List.set_cons_succ]
      refine wpAnyH_take (i := 6) (oi := { dst := some 26, op := Go.Op.fieldAddr 51 (Go.Operand.tmp 7) 1, type := 0, pos := "disk.go:87", after := #[], guard := none }) (v := .pointer (some ⟨bo, 1, none⟩)) rfl (by kernel_rfl) (by kernel_rfl) (by kernel_rfl) (fun _ _ _ h => h) (Or.inl ⟨by kernel_rfl, ?_⟩) hS ?_
      · intro w5 hSw
        clear hSw hS
        go_simp
      simp only [Act.put, List.setIfInBounds_toArray, List.set_cons_zero, List.set_cons_succ]
      refine wpAnyH_take (i := 7) (oi := { dst := some 27, op := Go.Op.load 29 (Go.Operand.tmp 26), type := 29, pos := "disk.go:87", after := #[{ on := 6, ground := Go.Ground.data }], guard := none }) (v := g.v) rfl (by kernel_rfl) (by kernel_rfl) (by kernel_rfl) (fun _ _ _ h => h) (Or.inl ⟨by kernel_rfl, ?_⟩) hS ?_
      · intro w5 hSw
        have h0 := (hSw.at HA4.out hbM).cell (i := 1) rfl
        clear hSw hS
        go_simp
      simp only [Act.put, List.setIfInBounds_toArray, List.set_cons_zero, List.set_cons_succ]
      refine wpAnyH_take (i := 9) (oi := { dst := some 29, op := Go.Op.fieldAddr 51 (Go.Operand.tmp 7) 1, type := 0, pos := "disk.go:87", after := #[], guard := none }) (v := .pointer (some ⟨bo, 1, none⟩)) rfl (by kernel_rfl) (by kernel_rfl) (by kernel_rfl) (fun _ _ _ h => h) (Or.inl ⟨by kernel_rfl, ?_⟩) hS ?_
      · intro w5 hSw
        clear hSw hS
        go_simp
      simp only [Act.put, List.setIfInBounds_toArray, List.set_cons_zero, List.set_cons_succ]
      refine wpAnyH_take (i := 10) (oi := { dst := some 30, op := Go.Op.load 29 (Go.Operand.tmp 29), type := 29, pos := "disk.go:87", after := #[{ on := 9, ground := Go.Ground.data }], guard := none }) (v := g.v) rfl (by kernel_rfl) (by kernel_rfl) (by kernel_rfl) (fun _ _ _ h => h) (Or.inl ⟨by kernel_rfl, ?_⟩) hS ?_
      · intro w5 hSw
        have h0 := (hSw.at HA4.out hbM).cell (i := 1) rfl
        clear hSw hS
        go_simp
      simp only [Act.put, List.setIfInBounds_toArray, List.set_cons_zero, List.set_cons_succ]
      refine wpAnyH_ready (rs := [8]) (by kernel_rfl) (by simp) ?_
      refine AllReadyH.cons (o := { dst := some 28, op := Go.Op.call { callee := Go.Callee.value (Go.Operand.func 39), args := #[Go.Operand.tmp 27], argTypes := #[29] }, type := 29, pos := "disk.go:87", after := #[{ on := 7, ground := Go.Ground.data }], guard := none }) rfl (fun K hK => ?_) AllReadyH.nil
      rw [if_pos (by kernel_rfl)]
      go_simp
      refine (HCl.out _ (Up.refl _).drew).mono ?_
      rintro e w5 ⟨v1, rfl, o5, u5⟩
      obtain ⟨a1, k1, rfl, _⟩ := id (Ow.sb o5)
      dsimp only
      have HU5 := Hid.of ((Up.refl w4).drew.trans u5)
      have HO5 := Hid.of (show Ow w5 bo (.slice a1 g.ds.length k1) g.ds from ow_base o5 (by have := lt_of_at HA4.out; show bo ≤ w4.heap.size; omega))
      have HZ5 := Hid.of (fun g0 (hg0 : (Value.slice a1 g.ds.length k1).ownBlock = some g0) => (World.ownsRow.lt o5 g0 hg0))
      clear o5 u5 hS
      refine hK.out _ _ ((Fr.refl _ _).up HU5.out) (fun hS => ?_)
      clear hK K
      refine wpAnyH_ready (rs := [11]) (by kernel_rfl) (by simp) ?_
      refine AllReadyH.cons (o := { dst := some 31, op := Go.Op.call { callee := Go.Callee.value (Go.Operand.func 39), args := #[Go.Operand.tmp 30], argTypes := #[29] }, type := 29, pos := "disk.go:87", after := #[{ on := 10, ground := Go.Ground.data }, { on := 8, ground := Go.Ground.chain }], guard := none }) rfl (fun K hK => ?_) AllReadyH.nil
      rw [if_pos (by kernel_rfl)]
      go_simp
      refine (HCl.out _ HU5.out).mono ?_
      rintro e w6 ⟨v2, rfl, o6, u6⟩
      obtain ⟨a2, k2, rfl, _⟩ := id (Ow.sb o6)
      dsimp only
      have HU6 := Hid.of (HU5.out.trans u6)
      have HO6 := Hid.of (show Ow w6 bo (.slice a2 g.ds.length k2) g.ds from ow_base o6 (by have := lt_of_at HA4.out; have := HU5.out.size; omega))
      have HO5b := Hid.of (ow_up HO5.out u6)
      have HAp := Hid.of (show ∀ g0, (Value.slice a1 g.ds.length k1).ownBlock = some g0 → (Value.slice a2 g.ds.length k2).ownBlock ≠ some g0 from fun g0 h1 h2 => by
        have := (HZ5.out g0 h1).2
        have := (World.ownsRow.lt o6 g0 h2).1
        omega)
      clear o6 u6 hS
      refine hK.out _ _ ((Fr.refl _ _).up HU6.out) (fun hS => ?_)
      clear hK K
      refine wpAnyH_take (i := 12) (oi := { dst := some 32, op := Go.Op.build 69 #[(0, Go.Operand.tmp 28), (1, Go.Operand.tmp 31)], type := 69, pos := "disk.go:87", after := #[{ on := 8, ground := Go.Ground.data }, { on := 11, ground := Go.Ground.data }], guard := none }) (v := .agg #[(.slice a1 g.ds.length k1), (.slice a2 g.ds.length k2), .slice none 0 0]) rfl (by kernel_rfl) (by kernel_rfl) (by kernel_rfl) (fun _ _ _ h => h) (Or.inl ⟨by kernel_rfl, ?_⟩) hS ?_
      · intro w5 hSw
        clear hSw hS
        go_simp
      simp only [Act.put, List.setIfInBounds_toArray, List.set_cons_zero, List.set_cons_succ]
      refine wpAnyH_ready (rs := [13]) (by kernel_rfl) (by simp) ?_
      refine AllReadyH.cons (o := { dst := some 33, op := Go.Op.box 69 (Go.Operand.tmp 32), type := 66, pos := "disk.go:87", after := #[{ on := 12, ground := Go.Ground.data }], guard := none }) rfl (fun K hK => ?_) AllReadyH.nil
      rw [if_pos (by kernel_rfl)]
      go_simp
      have HU7 := Hid.of (HU6.out.alloc (.cells #[(.slice a1 g.ds.length k1), (.slice a2 g.ds.length k2), .slice none 0 0] 69))
      have HF7 := Hid.of (show At (w6.alloc (.cells #[(.slice a1 g.ds.length k1), (.slice a2 g.ds.length k2), .slice none 0 0] 69)) w6.heap.size 69 [(.slice a1 g.ds.length k1), (.slice a2 g.ds.length k2), .slice none 0 0] from at_new w6 69 [(.slice a1 g.ds.length k1), (.slice a2 g.ds.length k2), .slice none 0 0])
      have HU67 := Hid.of ((Up.refl w6).alloc (.cells #[(.slice a1 g.ds.length k1), (.slice a2 g.ds.length k2), .slice none 0 0] 69))
      have HF6 := Hid.of (show bo ≤ w6.heap.size by have := lt_of_at HA4.out; have := HU6.out.size; omega)
      generalize w6.heap.size = F at *
      generalize hw7 : w6.alloc (.cells #[(.slice a1 g.ds.length k1), (.slice a2 g.ds.length k2), .slice none 0 0] 69) = w7 at *
      clear hw7 hS
      refine hK.out _ _ ((Fr.refl _ _).up HU7.out) (fun hS => ?_)
      clear hK K
      refine wpAnyH_ready (rs := [14]) (by kernel_rfl) (by simp) ?_
      refine AllReadyH.cons (o := { dst := none, op := Go.Op.mapUpdate 72 (Go.Operand.tmp 23) (Go.Operand.tmp 25) (Go.Operand.tmp 33), type := 0, pos := "disk.go:87", after := #[{ on := 3, ground := Go.Ground.data }, { on := 5, ground := Go.Ground.data }, { on := 13, ground := Go.Ground.data }, { on := 11, ground := Go.Ground.chain }, { on := 0, ground := Go.Ground.phase }, { on := 1, ground := Go.Ground.phase }, { on := 2, ground := Go.Ground.phase }, { on := 3, ground := Go.Ground.phase }, { on := 4, ground := Go.Ground.phase }, { on := 5, ground := Go.Ground.phase }, { on := 6, ground := Go.Ground.phase }, { on := 7, ground := Go.Ground.phase }, { on := 8, ground := Go.Ground.phase }, { on := 9, ground := Go.Ground.phase }, { on := 10, ground := Go.Ground.phase }, { on := 11, ground := Go.Ground.phase }, { on := 12, ground := Go.Ground.phase }, { on := 13, ground := Go.Ground.phase }], guard := none }) rfl (fun K hK => ?_) AllReadyH.nil
      rw [if_pos (by kernel_rfl)]
      obtain ⟨w8, hrun, o8, g8⟩ := World.ownsMap.update (HJ4.out.upTo HU7.out).map (Maps.string_keyed Tryd.underlying9) Tryd.underlying72 (show nf.length < maxLen by simp only [maxLen]; have := HLD.out.len; rw [List.length_take] at this; omega) (keyS g.nm (by rw [Go.Lib.size_eq]; exact nm_len HNj.out)) (show rp (pv F) = some (fd F, []) from rfl)
      go_simp
      have HO8 := Hid.of o8
      have HG8 := Hid.of g8
      clear o8 g8 hrun
      refine hK.out _ _ (((Fr.refl _ _).up HU7.out).by HG8.out (fun k hk => .inl (Option.some.inj hk).symm)) (fun hS => ?_)
      clear hK K
      clear hS
      refine wpAnyH_done (by kernel_rfl) ?_ _
      have HJ7 := Hid.of (HJ4.out.upTo HU7.out)
      have HStep := Hid.of (LJ.step (N := bo) HJ7.out HNj.out HNew.out (by have := HBd.out; omega) HN4.out.1 HN4.out.2.1 HN4.out.2.2 HF7.out HF6.out (ow_up HO5b.out HU67.out) (ow_up HO6.out HU67.out) HAp.out HO8.out HG8.out)
      have f8 := (Fr.refl (fun k => k = M) w4).up HU7.out |>.by HG8.out (fun k hk => .inl (Option.some.inj hk).symm)
      have c1 := (f8.at HA4.out hbM).cell (i := 1) rfl
      have d1 := (f8.at HJ4.out.disk hDM).cell (i := 1) rfl
      have t1 := (f8.at HJ4.out.disk hDM).thaw 1
      have hub := HBd.out
      have HLs2 := Hid.of (HLs.out F (.slice a1 g.ds.length k1) (.slice a2 g.ds.length k2))
      rw [HVG.out] at c1
      clear f8 HO8 HG8 HJ7 HO5b HO6 HAp HF7 HU67 HCl HZ5 HO5 HU5 HU6
      go_wp2
      apply wp_once
      case h =>
        go_region
        all_goals exact ⟨rfl, rfl⟩
      go_wp2
      go_roundw
      all_goals first
        | exact ⟨j + 1, by go_num, by omega, Hid.of ⟨_, _, HStep.out.upTo (Up.refl _).drew, HLs2.out⟩⟩
        | (simp [intOf]; omega)
    · have hjz : ¬ (j : Int) < (fs.length : Int) := by omega
      have c3 := HJ.out.disk.cell (i := 3) rfl
      rw [show fs.take j = fs from List.take_of_length_le (by omega)] at HLD
      have HC := Hid.of (mapsClone_walk M nf.length dm wr HJ.out.map)
      go_wp2_with fail
      refine HC.out.mono ?_
      rintro e w3 ⟨L, rfl, l3, ml3, u3⟩
      have HJ3 := Hid.of (HJ.out.upTo u3)
      have HML := Hid.of ml3
      have HL3 := Hid.of (show w.heap.size ≤ L ∧ M ≠ L from ⟨Nat.le_trans HJ.out.up.size l3, fun e => by have := World.ownsMap.lt HJ.out.map; omega⟩)
      have t4 := HJ3.out.disk.thaw 4
      have c4 := HJ3.out.disk.cell (i := 4) rfl
      clear u3 c3 HC ml3 l3
      dsimp only
      go_wp2
      go_ret
      exact ⟨D, M, L, dm, nf, rfl, w3, HJ3.out, HLD.out, HML.out, HL3.out.1, HL3.out.2, rfl⟩
end Go.Proofs.YtepakbghhnkcfaaDoor
namespace Go.Proofs.YtepakbghhnkcfaaDoor
open Go.RowKit Go.Shelf TextNum ModNum
/-- the names of a list -/
def nmOf (nf : List (List UInt8 × FL)) : NM := fun l => (nf.find? fun p => p.1 == l).map (·.2.b)
theorem nmOf_mem {nf : List (List UInt8 × FL)} (nd : (nf.map (·.1)).Nodup) {p : List UInt8 × FL} (hp : p ∈ nf) : nmOf nf p.1 = some p.2.b := by
  unfold nmOf
  obtain ⟨xs, ys, e⟩ := List.append_of_mem hp
  subst e
  rw [List.map_append, List.map_cons, List.nodup_append] at nd
  have h1 : xs.find? (fun q => q.1 == p.1) = none := List.find?_eq_none.2 (fun q hq e => nd.2.2 q.1 (List.mem_map_of_mem hq) p.1 List.mem_cons_self (beq_iff_eq.1 e))
  rw [List.find?_append, h1, List.find?_cons]
  simp
theorem nmOf_no {nf : List (List UInt8 × FL)} {l : List UInt8} (h : l ∉ nf.map (·.1)) : nmOf nf l = none := by
  unfold nmOf
  rw [List.find?_eq_none.2 (fun q hq e => h (by rw [← beq_iff_eq.1 e]; exact List.mem_map_of_mem hq))]
  rfl
theorem MN.mis {dm : DataW Unit} {nf : List (List UInt8 × FL)} (h : MN dm nf) (nd : (nf.map (·.1)).Nodup) : MIs dm (nmOf nf) := by
  intro l
  by_cases hl : l ∈ nf.map (·.1)
  · obtain ⟨p, hp, rfl⟩ := List.mem_map.1 hl
    rw [nmOf_mem nd hp]
    exact ⟨(h.has p.1).2 hl, fun b e z => by injection e with e; subst e; exact h.val p hp z⟩
  · rw [nmOf_no hl]
    refine ⟨?_, fun b e => by cases e⟩
    cases hh : Maps.has dm (.string l) with
    | false => rfl
    | true => exact absurd ((h.has l).1 hh) hl
/-- a disk on which nothing is loose -/
def ldS (room M L : Nat) (dm : DataW Unit) (nf : List (List UInt8 × FL)) : DD := ⟨room, M, L, nf.length, nf.length, nf.length, dm, dm, nmOf nf, .slice none 0 0, .slice none 0 0, [], nf, [], 0, 0, 0, 0, false⟩
theorem lsd_zero {fs : List FL} (h : ∀ f ∈ fs, f.lo = []) : lsd fs = 0 := by
  unfold lsd
  induction fs with
  | nil => rfl
  | cons f r ih => rw [List.map_cons, List.sum_cons, ih (fun g hg => h g (List.mem_cons_of_mem _ hg)), h f List.mem_cons_self]; rfl
/-- a disk that was laid -/
structure Laid (W w : World) (D room : Nat) (fs : List GF) (s : DD) : Prop where
  ok : DOk w W.heap.size D 0 s
  lo : ∀ k, own D s k → W.heap.size ≤ k
  up : Up W w
  ld : LD fs s.nf
  st : s.dead = false ∧ s.unt = 0 ∧ s.room = room ∧ s.chs = [] ∧ s.of = [] ∧ s.trn = 0 ∧ s.acts = 0 ∧ s.las = nmOf s.nf
  sy : ∀ p ∈ s.nf, p.2.lb = p.2.nb ∧ p.2.lo = []
theorem laid_gen (room : Nat) (a : Option Addr) (fs : List GF) (c : Nat) (w : World) (hF : FsL w a fs c) (hnm : ∀ g ∈ fs, isNm g.nm.data.toList = true) (hnd : (fs.map fun g => g.nm.data.toList).Nodup) (hsz : (fs.map fun g => g.ds.length).sum ≤ 1099511627776) (hlen : fs.length ≤ 1000000) (hr : room ≤ 1099511627776) (hG : ML w) (hV : 0 < w.heap.size) :
    Calls Tryd.prog 49 #[.int .i64 (room : Int), .slice a fs.length c] w fun e w' => ∃ D s, e = .returned (pv D) ∧ Laid w w' D room fs s := by
  refine (laid_raw room a fs c w hF hnm hnd hsz hlen).mono ?_
  rintro e w' ⟨D, M, L, dm, nf, rfl, w1, hJ, hL, mL, lL, ne, rfl⟩
  have g4 := grown_at w1 D 4 (.map (some L))
  have f4 : Fr (fun k => k = D) w1 (w1.setCell ⟨D, 4, none⟩ (.map (some L))) := (Fr.refl (fun k => k = D) w1).by g4 (fun k hk => .inl (Option.some.inj hk).symm)
  have tD := hJ.disk.tg
  have nD : ∀ k, tagOf w1 k ≠ some 82 → ¬ k = D := fun k hk e => hk (by rw [e]; exact tD)
  have hU : Up w (w1.setCell ⟨D, 4, none⟩ (.map (some L))) := hJ.up.by g4 (fun g hg => by have := Option.some.inj hg; have := hJ.low.1; omega)
  have hfl : fls (ldS room M L dm nf) = nf.map (·.2) := by show nf.map (·.2) ++ [] = _; simp
  have hz : lsd (fls (ldS room M L dm nf)) = 0 := by
    rw [hfl]
    refine lsd_zero (fun f hf => ?_)
    obtain ⟨p, hp, rfl⟩ := List.mem_map.1 hf
    exact (hJ.sz p hp).2.2.1
  have hln := hL.len
  have hu := hL.usd
  have fok4 : ∀ p ∈ nf, FOk (w1.setCell ⟨D, 4, none⟩ (.map (some L))) w.heap.size p.2 := fun p hp => (hJ.fok p hp).fr f4 (fun b hb e => by
    have e : b = D := e
    subst e
    exact (hJ.fok p hp).out hb tD (by decide))
  refine ⟨D, ldS room M L dm nf, rfl, ⟨⟨hG.up hU, ⟨hV, hJ.low.1, hJ.low.2, lL⟩, hU.size, ?_, f4.map hJ.map (nD M (by rw [map_tg hJ.map]; decide)), hJ.isn, hJ.nd, hJ.nms, f4.map mL (nD L (by rw [map_tg mL]; decide)), hJ.isn.mis hJ.nd, ne, World.ownsRow_nil _ _ _ _, World.ownsRow_nil _ _ _ _, (fun c hc => by cases hc), (fun c hc => by cases hc), ?_, ?_, ?_, ?_, ?_⟩, ?_, hU, hL, ⟨rfl, rfl, rfl, rfl, rfl, rfl, rfl, rfl⟩, fun p hp => ⟨(hJ.sz p hp).2.1, (hJ.sz p hp).2.2.1⟩⟩⟩
  · show At _ D 82 [.int .i64 (room : Int), .int .i64 (usd nf : Int), .bool false, .map (some M), .map (some L), .slice none 0 0, .slice none 0 0, .int .i64 ((lsd (fls (ldS room M L dm nf)) : Nat) : Int), .int .i64 0, .int .i64 0, .int .i64 0, .int .i64 0]
    rw [hz]
    exact hJ.disk.set 4 (.map (some L))
  · intro f hf
    rw [hfl] at hf
    obtain ⟨p, hp, rfl⟩ := List.mem_map.1 hf
    exact fok4 p hp
  · rw [hfl, List.map_map]
    exact hJ.fnd
  · intro f hf g hg
    rw [hfl] at hf hg
    obtain ⟨p, hp, rfl⟩ := List.mem_map.1 hf
    obtain ⟨q, hq, rfl⟩ := List.mem_map.1 hg
    exact hJ.apart p hp q hq
  · intro f hf
    rw [hfl] at hf
    obtain ⟨p, hp, rfl⟩ := List.mem_map.1 hf
    have := hJ.sz p hp
    rw [this.2.1, this.2.2.1]
    exact ⟨this.1, this.1, Nat.le_refl _⟩
  · show (0 : Nat) ≤ 0 ∧ (0 : Nat) ≤ 0 ∧ (0 : Nat) ≤ 0 ∧ (0 : Nat) ≤ 0 ∧ lsd (fls (ldS room M L dm nf)) ≤ 0 ∧ nf.length ≤ nf.length + 0 ∧ nf.length ≤ nf.length + 0 ∧ (0 : Nat) ≤ 100000 ∧ nf.length ≤ 1000000 ∧ room ≤ 1099511627776 ∧ usd nf ≤ 1099511627776
    rw [hz, hu, hln]
    omega
  · intro k hk
    rcases hk with hk | hk | hk | hk | hk | ⟨f, hf, hk⟩ | ⟨c, hc, _⟩
    · have := hJ.low.1; omega
    · have hk : k = M := hk
      have := hJ.low.2; omega
    · have hk : k = L := hk
      omega
    · cases hk
    · cases hk
    · rw [hfl] at hf
      obtain ⟨p, hp, rfl⟩ := List.mem_map.1 hf
      exact hJ.new p hp k hk
    · cases hc
end Go.Proofs.YtepakbghhnkcfaaDoor
namespace Go.Proofs.YtepakbghhnkcfaaDoor
open Go.RowKit Go.Shelf TextNum ModNum
def nbOf (nf : List (List UInt8 × FL)) (l : List UInt8) : List UInt8 := ((nf.find? fun p => p.1 == l).map (·.2.nb)).getD []
theorem nbOf_mem {nf : List (List UInt8 × FL)} (nd : (nf.map (·.1)).Nodup) {p : List UInt8 × FL} (hp : p ∈ nf) : nbOf nf p.1 = p.2.nb := by
  unfold nbOf
  obtain ⟨xs, ys, e⟩ := List.append_of_mem hp
  subst e
  rw [List.map_append, List.map_cons, List.nodup_append] at nd
  have h1 : xs.find? (fun q => q.1 == p.1) = none := List.find?_eq_none.2 (fun q hq e => nd.2.2 q.1 (List.mem_map_of_mem hq) p.1 List.mem_cons_self (beq_iff_eq.1 e))
  rw [List.find?_append, h1, List.find?_cons]
  simp
/-- what Files tells -/
def fsOf (nf : List (List UInt8 × FL)) : List (List UInt8 × List UInt8) := (srt (nf.map (·.1))).map fun l => (l, nbOf nf l)
def fcs (fs : List GF) : List Value := fs.flatMap fun g => [.string g.nm, g.v]
theorem fcs_snoc (fs : List GF) (g : GF) : fcs (fs ++ [g]) = fcs fs ++ [.string g.nm, g.v] := by simp [fcs]
theorem fcs_get : ∀ (fs : List GF) {i : Nat} (hi : i < fs.length), (fcs fs)[i * 2]? = some (.string fs[i].nm) ∧ (fcs fs)[i * 2 + 1]? = some fs[i].v
  | g :: r, 0, _ => ⟨rfl, rfl⟩
  | g :: r, i + 1, hi => by
    have ih := fcs_get r (i := i) (by simpa using hi)
    have e : fcs (g :: r) = .string g.nm :: g.v :: fcs r := rfl
    rw [e, show (i + 1) * 2 = i * 2 + 2 by omega]
    exact ih
/-- files in memory of one's own -/
structure FsO (w : World) (N : Nat) (a : Option Addr) (fs : List GF) (c : Nat) : Prop where
  row : w.ownsRow N 51 2 (.slice a fs.length c) fs.length (fcs fs)
  dat : ∀ g ∈ fs, Ow w N g.v g.ds
theorem FsO.up {w w' : World} {N : Nat} {a : Option Addr} {fs : List GF} {c : Nat} (h : FsO w N a fs c) (u : Up w w') : FsO w' N a fs c := ⟨ow_up h.row u, fun g hg => ow_up (h.dat g hg) u⟩
theorem FsO.low {w : World} {N N' : Nat} {a : Option Addr} {fs : List GF} {c : Nat} (h : FsO w N a fs c) (hn : N' ≤ N) : FsO w N' a fs c := ⟨ow_base h.row hn, fun g hg => ow_base (h.dat g hg) hn⟩
theorem FsO.fsl {w : World} {N : Nat} {a : Option Addr} {fs : List GF} {c : Nat} (h : FsO w N a fs c) : FsL w a fs c := by
  refine ⟨?_, fun i hi => ?_, fun g hg => Ow.sb (h.dat g hg)⟩
  · rcases h.row.2 with ⟨_, h0⟩ | ⟨g, cap, cur, e, _, _, hc, _⟩
    · omega
    · injection e with _ _ e3
      omega
  · rcases h.row.2 with ⟨_, h0⟩ | ⟨g, cap, cur, e, _, _, hc, _⟩
    · omega
    · injection e with e1 _ e3
      subst e1 e3
      have hc := World.ownsRow.cells h.row rfl
      have h1 := hc (i * 2) _ (fcs_get fs hi).1
      have h2 := hc (i * 2 + 1) _ (fcs_get fs hi).2
      rw [Addr.add_lit] at h1 h2
      exact ⟨g, 0, rfl, h1, h2⟩
set_option maxRecDepth 100000 in
theorem own_off' {w : World} {B B' n n' m m' : Nat} {e e' : TypeId} {v v' : Value} {xs xs' : List Value} (h : w.ownsRow B e m v n xs) (k : w.ownsRow B' e' m' v' n' xs') (ht : e ≠ e') : v.ownBlock = none ∨ v.ownBlock ≠ v'.ownBlock := by
  cases hv : v.ownBlock with
  | none => exact .inl rfl
  | some g => exact .inr (fun e0 => own_apart h k ht hv e0.symm)
theorem Tryd.infoFl : (Tryd.prog.info? 51).map (fun i => (i.zero, i.size, i.bytes)) = some (some (.agg #[.string ⟨#[]⟩, .slice none 0 0]), 2, 40) := by kernel_rfl
/-- one file is appended -/
theorem wpList_appFile {w : World} {N q : Nat} {ops : Array Oper} {rest : List Oper} {o : Oper} {a : Act} {Q : Exit → Act → World → Prop} (hgd : o.guard = none) (x y : Operand)
    (ho : o.op = .call { callee := .builtin .append, args := #[x, y], argTypes := #[52, 52] }) (ax : Option Addr) (cx : Nat) (fs : List GF) (g : GF) (hq : fs.length = q) (hx : a.eval x = .slice ax q cx) (hy : a.eval y = .slice (some ⟨w.heap.size, 0, none⟩) 1 1)
    (hR : FsO w N ax fs cx) (hg : Ow w N g.v g.ds) (hNw : N ≤ w.heap.size) (hql : q ≤ 1099511627776)
    (K : ∀ ax2 cx2 w', FsO w' N ax2 (fs ++ [g]) cx2 → (∀ W, Up W w → W.heap.size ≤ N → Up W w') → w.grownBy w' (Value.slice ax q cx).ownBlock → wpList Tryd.prog ops Q rest (a.put o.dst (.slice ax2 (q + 1) cx2)) w') :
    wpList Tryd.prog ops Q (o :: rest) a (w.alloc (.cells #[.string g.nm, g.v] 51)) := by
  subst hq
  obtain ⟨i1, hi1, hz0, hz1, hz2⟩ := info_parts Tryd.infoFl
  have HUx := (Up.refl w).alloc (.cells #[.string g.nm, g.v] 51)
  have hnu := ow_up hR.row HUx
  have hgv : g.v.oneCell' = true := by
    obtain ⟨_, _, e, _⟩ := Ow.sb hg
    rw [e]; rfl
  refine wpList_append_own _ hgd x y 52 ho N 51 i1 (.agg #[.string ⟨#[]⟩, .slice none 0 0]) 2 40 Tryd.underlying52 hi1 hz0 hz1 hz2 rfl (by omega) (.slice ax fs.length cx) fs.length _ hx hnu ⟨w.heap.size, 0, none⟩ 1 1 [.string g.nm, g.v] hy rfl ?_ ?_ (by simp only [maxLen]; omega) (by omega) (Nat.le_trans hNw HUx.size) ?_
  · intro j u hu
    rw [Addr.add_lit]
    exact At.cell (at_new w 51 [.string g.nm, g.v]) (i := 0 + j) (by rw [Nat.zero_add]; exact hu)
  · intro u hu
    simp only [List.mem_cons, List.not_mem_nil, or_false] at hu
    rcases hu with rfl | rfl
    · rfl
    · exact hgv
  intro v8 w8 o8 g8 _
  obtain ⟨ax2, cx2, rfl⟩ : ∃ ax2 cx2, v8 = .slice ax2 (fs.length + 1) cx2 := by
    rcases o8.2 with ⟨_, h0⟩ | ⟨g, cap, cur, e1, _⟩
    · omega
    · exact ⟨_, cap, e1⟩
  refine K ax2 cx2 w8 ⟨?_, fun g' hg' => ?_⟩ (fun W hU hW => up_grownBy (hU.trans HUx) g8 (fun k hk => Nat.le_trans hW (World.ownsRow.lt hR.row k hk).1)) (up_grown HUx g8)
  · rw [List.length_append, fcs_snoc]
    exact o8
  · have key : ∀ v ds, Ow w N v ds → Ow w8 N v ds := fun v ds h => World.ownsRow.kept (ow_up h HUx) g8 (own_off' (ow_up h HUx) hnu (by decide))
    rcases List.mem_append.1 hg' with hg' | hg'
    · exact key _ _ (hR.dat g' hg')
    · obtain rfl := List.mem_singleton.1 hg'
      exact key _ _ hg
set_option maxRecDepth 100000 in
set_option maxHeartbeats 4000000 in
theorem Files_gen {B D T : Nat} {s : DD} (w : World) (h : DOk w B D T s) (hd : s.dead = false) (hlen : s.nf.length ≤ 1099511627776) :
    Calls Tryd.prog 20 #[pv D] w fun e w' => ∃ a fs c, e = .returned (.slice a fs.length c) ∧ FsO w' w.heap.size a fs c ∧ Up w w' ∧ (fs.map fun g => (g.nm.data.toList, g.ds)) = fsOf s.nf := by
  have HI := Hid.of h
  have HLi := Hid.of (List_gen ⟨#[]⟩ w h hd)
  clear h
  go_enter Tryd.func20, Tryd.ntmps20
  go_wp2_with fail
  refine HLi.out.mono ?_
  rintro e w7 ⟨v7, rfl, q7, u7⟩
  replace q7 : SlS w7 v7 (srt (s.nf.map (·.1))) := by rw [← lsN_all]; exact q7
  obtain ⟨Ls, hLs⟩ : ∃ Ls, Ls = srt (s.nf.map (·.1)) := ⟨_, rfl⟩
  have HFs := Hid.of (show fsOf s.nf = Ls.map fun l => (l, nbOf s.nf l) by rw [hLs]; rfl)
  have HLm := Hid.of (show ∀ l, l ∈ Ls → l ∈ s.nf.map (·.1) by subst hLs; exact fun l hl => srt_mem.1 hl)
  have HLl := Hid.of (show Ls.length = s.nf.length by rw [hLs, srt_len, List.length_map])
  rw [← hLs] at q7
  have HU7 := Hid.of u7
  clear u7 HLi hLs
  obtain ⟨al, cl, rfl, hcl, hcells⟩ := q7
  have HCl := Hid.of hcells
  obtain ⟨n, hn⟩ : ∃ n, Ls.length = n := ⟨_, rfl⟩
  have HN := Hid.of hn
  rw [hn] at hcl ⊢
  have hclz : (n : Int) ≤ (cl : Int) := by omega
  have hnl : n ≤ 1099511627776 := by have := HLl.out; omega
  clear hcells hn
  dsimp only
  go_wp2
  go_loopw [3, 5, 9] (fun v3 _ v9 wq => ∃ i : Nat, v9 = .int .i64 (i : Int) ∧ i ≤ n ∧ ∃ a3 c3, v3 = .slice a3 i c3 ∧ Hid (∃ fs, fs.length = i ∧ FsO wq w7.heap.size a3 fs c3 ∧ Up w7 wq ∧ (fs.map fun g => (g.nm.data.toList, g.ds)) = (Ls.take i).map fun l => (l, nbOf s.nf l))) (fun _ _ v9 _ => n - (intOf v9).toNat)
  case atStart => exact ⟨0, rfl, by omega, none, 0, rfl, Hid.of ⟨[], rfl, ⟨World.ownsRow_nil _ _ _ _, (fun g hg => by cases hg)⟩, Up.refl _, rfl⟩⟩
  case round =>
    obtain ⟨i, rfl, hi, a3, c3, rfl, hQ⟩ := hrel
    obtain ⟨fs, hfl, hO, hU, hE⟩ := hQ.out
    have HO := Hid.of hO
    have HU := Hid.of hU
    have HE := Hid.of hE
    have HFl := Hid.of hfl
    clear hQ hO hU hE hfl
    by_cases hil : i < n
    · have hilz : (i : Int) < (n : Int) := by omega
      have hill : i < Ls.length := by rw [HN.out]; exact hil
      rcases HCl.out with e0 | ⟨bl, ol, rfl, _, hcell⟩
      · exfalso; rw [e0] at hill; simp at hill
      have k1 := HU.out.cell (hcell i hill)
      obtain ⟨x, hx⟩ : ∃ x, Ls[i] = x := ⟨_, rfl⟩
      rw [hx] at k1
      obtain ⟨p, hp, hpx⟩ := List.mem_map.1 (HLm.out Ls[i] (List.getElem_mem hill))
      rw [hx] at hpx
      have HEs := Hid.of (show ∀ v, ((fs ++ [(⟨⟨x.toArray⟩, v, p.2.nb⟩ : GF)]).map fun g => (g.nm.data.toList, g.ds)) = (Ls.take (i + 1)).map fun l => (l, nbOf s.nf l) from fun v => by
        rw [List.take_succ_eq_append_getElem hill, List.map_append, List.map_append, HE.out, hx, ← hpx]
        show _ ++ [(p.1, p.2.nb)] = _ ++ [(p.1, nbOf s.nf p.1)]
        rw [nbOf_mem HI.out.nd hp])
      have hIw := HI.out.up (HU7.out.trans HU.out)
      have c3' := hIw.disk.cell (i := 3) rfl
      obtain ⟨v, ps, hrun, hv⟩ := World.ownsMap.lookup hIw.mnow (Maps.string_keyed Tryd.underlying9) Tryd.underlying72 (Tryd.zeroValue66 wr) (zd := .lit (.bool false)) (zp := []) rfl (keyS ⟨x.toArray⟩ (by rw [Go.Lib.size_eq]; show x.length ≤ 255; rw [← hpx]; exact nm_len (HI.out.nms p hp)))
      have e5 := hIw.isn.val p hp
      rw [hpx] at e5
      have e6 : ∀ z, s.dm.atKey (.string (⟨x.toArray⟩ : ByteArray).data.toList) z = fd p.2.b := e5
      rw [e6] at hv
      obtain rfl := rp_inv hv
      have cf := (hIw.fok p.2 (mem_fls_nf hp)).file.cell (i := 0) rfl
      have HCn := Hid.of (Clone_walk p.2.vn p.2.nb wr (Ow.sb (hIw.fok p.2 (mem_fls_nf hp)).now) (by have := hIw.sz p.2 (mem_fls_nf hp); omega))
      clear hv hcell hx hIw e5 e6
      go_wp2_with fail
      refine HCn.out.mono ?_
      rintro e w8 ⟨v8, rfl, o8, u8⟩
      obtain ⟨a8, c8, rfl, _⟩ := id (Ow.sb o8)
      have HO8 := Hid.of (show Ow w8 w7.heap.size (.slice a8 p.2.nb.length c8) p.2.nb from ow_base o8 HU.out.size)
      have HF8 := Hid.of (HO.out.up u8)
      have HU8 := Hid.of (HU.out.trans u8)
      clear o8 u8 HCn hrun c3' cf k1
      dsimp only
      go_wp2_with (with_reducible show wpList _ _ _ ({ dst := _, op := Op.call { callee := Callee.builtin Builtin.append, args := _, argTypes := _ }, type := _, pos := _, after := _, guard := _ } :: _) _ _; refine Shut.out ?_)
      show wpList _ _ _ _ _ _
      refine wpList_appFile (w := w8) (N := w7.heap.size) rfl _ _ rfl a3 c3 fs ⟨⟨x.toArray⟩, .slice a8 p.2.nb.length c8, p.2.nb⟩ HFl.out rfl rfl HF8.out HO8.out HU8.out.size (by omega) ?_
      intro ax2 cx2 w9 f9 u9 _
      have HF9 := Hid.of f9
      have HU9 := Hid.of (u9 w7 HU8.out (Nat.le_refl _))
      clear f9 u9
      simp only [Act.put, List.setIfInBounds_toArray, List.set_cons_zero, List.set_cons_succ]
      go_wp2
      go_roundw
      all_goals first
        | exact ⟨i + 1, by go_num, by omega, ax2, cx2, rfl, Hid.of ⟨_, by rw [List.length_append, HFl.out]; rfl, HF9.out, HU9.out, HEs.out _⟩⟩
        | (simp [intOf]; omega)
    · have hilz : ¬ (i : Int) < (n : Int) := by omega
      rw [show Ls.take i = Ls from List.take_of_length_le (by have := HN.out; omega), ← HFs.out] at HE
      go_wp2
      go_ret
      exact ⟨a3, fs, c3, by rw [HFl.out]; rfl, HO.out.low HU7.out.size, HU7.out.trans HU.out, HE.out⟩
end Go.Proofs.YtepakbghhnkcfaaDoor
namespace Go.Proofs.YtepakbghhnkcfaaDoor
open Go.RowKit Go.Shelf TextNum ModNum
abbrev nmsOf (fs : List GF) : List (List UInt8) := fs.map fun g => g.nm.data.toList
abbrev ON (w : World) (M n : Nat) (D : DataW Unit) : Prop := w.ownsMap Tryd.prog 9 (plainElem Tryd.prog 3) M n D
theorem ON.up {w w' : World} {M n : Nat} {D : DataW Unit} (h : ON w M n D) (k : Up w w') : ON w' M n D := by
  have hl := World.ownsMap.lt h
  obtain ⟨es, cl, hb, r⟩ := h
  exact ⟨es, cl, (k.block M hl).trans hb, r⟩
theorem run_mkMapN {P : Program} (t k e : TypeId) (ht : P.underlying t = some (.map k e)) (n : Int) (w : World) : (Instr.makeMap t (some (.int .i64 n))).run P w = .ok (.map (some w.heap.size)) (w.alloc (.map #[] 0)) := run_mkMap t k e ht n w
/-- a count of names -/
structure Cnt (dm : DataW Unit) (ls : List (List UInt8)) : Prop where
  has : ∀ l, Maps.has dm (.string l) = true ↔ l ∈ ls
  val : ∀ l c, dm.atKey (.string l) (.lit (.int .i64 0)) = .lit (.int .i64 c) → 0 ≤ c ∧ c ≤ ls.length
  le : Maps.size dm ≤ ls.length
  eq : Maps.size dm = ls.length ↔ ls.Nodup
theorem Cnt.nil : Cnt (.map []) [] := ⟨fun l => by simp [Maps.has_eq], fun l c h => by
  have : (DataW.map [] : DataW Unit).atKey (.string l) (.lit (.int .i64 0)) = .lit (.int .i64 0) := rfl
  rw [this] at h
  injection h with h
  injection h with _ h
  omega, Nat.le_refl _, by simp [Maps.size_eq]⟩
theorem Cnt.step {dm : DataW Unit} {ls : List (List UInt8)} (h : Cnt dm ls) (hm : Maps.IsMap dm) (ht : Maps.Tidy dm) (x : List UInt8) (c : Int) (hc0 : 0 ≤ c) (hc : c ≤ ls.length) : Cnt (dm.put (.string x) (.lit (.int .i64 (c + 1)))) (ls ++ [x]) := by
  have sz := Maps.size_put (k := .string x) ht (.lit (.int .i64 (c + 1)))
  refine ⟨fun l => ?_, fun l c' hl => ?_, ?_, ?_⟩
  · by_cases hx : l = x
    · subst hx
      rw [Maps.has_put_same hm (by simp [WideAt.IsKeyLit])]
      simp
    · rw [Maps.has_put_other (str_ne hx), h.has l]
      simp [hx]
  · by_cases hx : l = x
    · subst hx
      rw [Maps.atKey_put_same hm (by simp [WideAt.IsKeyLit])] at hl
      injection hl with hl
      injection hl with _ hl
      rw [List.length_append]
      simp only [List.length_singleton]
      omega
    · rw [Maps.atKey_put_other (str_ne hx)] at hl
      have := h.val l c' hl
      rw [List.length_append]
      simp only [List.length_singleton]
      omega
  · rw [sz, List.length_append]
    have := h.le
    simp only [List.length_singleton]
    split <;> omega
  · rw [sz, List.length_append]
    have hle := h.le
    simp only [List.length_singleton]
    by_cases hx : x ∈ ls
    · rw [if_pos ((h.has x).2 hx)]
      constructor
      · intro e; omega
      · intro nd
        rw [List.nodup_append] at nd
        exact absurd rfl (nd.2.2 x hx x (by simp))
    · rw [if_neg (fun e => hx ((h.has x).1 e))]
      have : (ls ++ [x]).Nodup ↔ ls.Nodup := by
        rw [List.nodup_append]
        constructor
        · exact fun h => h.1
        · exact fun h => ⟨h, by simp, fun a ha b hb e => hx (by simp only [List.mem_singleton] at hb; rw [← hb, ← e]; exact ha)⟩
      rw [this, ← h.eq]
      omega
theorem nms_take {fs : List GF} {j : Nat} (hj : j < fs.length) : nmsOf (fs.take (j + 1)) = nmsOf (fs.take j) ++ [fs[j].nm.data.toList] := by
  unfold nmsOf
  rw [List.take_succ_eq_append_getElem hj, List.map_append]
  rfl
set_option maxRecDepth 100000 in
set_option maxHeartbeats 4000000 in
theorem namedTwice_gen (a : Option Addr) (fs : List GF) (c : Nat) (w : World) (hF : FsL w a fs c) (hnm : ∀ g ∈ fs, isNm g.nm.data.toList = true) (hlen : fs.length ≤ 1000000) :
    Calls Tryd.prog 47 #[.slice a fs.length c] w fun e w' => e = .returned (.bool (decide (¬ (nmsOf fs).Nodup))) ∧ Up w w' := by
  have hmk := fun w' => run_mkMap (P := Tryd.prog) 104 9 3 Tryd.underlying104 fs.length w'
  have HM0 := Hid.of (World.ownsMap_made (H := Unit) w Tryd.prog 9 (plainElem Tryd.prog 3))
  have HU0 := Hid.of ((Up.refl w).alloc (.map #[] 0))
  have HF := Hid.of hF
  have HNm := Hid.of hnm
  have hcap := hF.cap
  clear hF hnm
  go_enter Tryd.func47, Tryd.ntmps47
  go_wp2
  clear hmk
  obtain ⟨M, hM⟩ : ∃ M, M = w.heap.size := ⟨_, rfl⟩
  rw [← hM]
  rw [← hM] at HM0
  have HMw := Hid.of (show w.heap.size ≤ M by omega)
  generalize w.alloc (.map #[] 0) = w1 at *
  clear hM
  go_loopw [5, 11] (fun _ v11 wr => ∃ j : Nat, v11 = .int .i64 (j : Int) ∧ j ≤ fs.length ∧ Hid (∃ dm, ON wr M j dm ∧ Cnt dm (nmsOf (fs.take j)) ∧ Up w wr)) (fun _ v11 _ => fs.length - (intOf v11).toNat)
  case atStart => exact ⟨0, rfl, by omega, Hid.of ⟨_, HM0.out, Cnt.nil, HU0.out⟩⟩
  case round =>
    obtain ⟨j, rfl, hj, hQ⟩ := hrel
    obtain ⟨dm, hM, hC, hU⟩ := hQ.out
    have HM := Hid.of hM
    have HC := Hid.of hC
    have HU := Hid.of hU
    have hjj : (nmsOf (fs.take j)).length = j := by simp [nmsOf]; omega
    have HJj := Hid.of hjj
    clear hQ hM hC hU HM0 HU0 hjj
    by_cases hjl : j < fs.length
    · have hjz : (j : Int) < (fs.length : Int) := by omega
      obtain ⟨b, off, rfl, k1, k2⟩ := (HF.out.up HU.out).cells j hjl
      have HSb := Hid.of ((HF.out.up HU.out).sb fs[j] (List.getElem_mem hjl))
      have HR := Hid.of (range2 k1 k2)
      have HNj := Hid.of (HNm.out fs[j] (List.getElem_mem hjl))
      have HT := Hid.of (nms_take hjl)
      obtain ⟨g, hg⟩ : ∃ g, fs[j] = g := ⟨_, rfl⟩
      rw [hg] at HSb HR HNj HT
      clear k1 k2 hg
      obtain ⟨ag, cg, hvg, _⟩ := id HSb.out
      have HVG := Hid.of hvg
      clear hvg
      go_wp2_with (with_reducible show wpList _ _ _ ({ dst := _, op := Op.indexAddr 52 _ _, type := _, pos := _, after := _, guard := _ } :: _) _ _; refine Shut.out ?_)
      show wpList _ _ _ _ _ _
      refine wpList_val7' (.pointer (some ⟨b, off + j * 2, none⟩)) rfl (exec_idxFile j hjl rfl rfl rfl) ?_
      simp only [Act.put, List.setIfInBounds_toArray, List.set_cons_zero, List.set_cons_succ]
      refine wpList_load_mid rfl _ _ rfl b (off + j * 2) rfl [.string g.nm, g.v] _ HR.out Tryd.underlying51 rfl infoFile ?_
      simp only [Act.put, List.setIfInBounds_toArray, List.set_cons_zero, List.set_cons_succ]
      go_wp2_with (with_reducible show wpList _ _ _ ({ dst := _, op := Op.store 51 _ _, type := _, pos := _, after := _, guard := _ } :: _) _ _; refine Shut.out ?_)
      show wpList _ _ _ _ _ _
      refine wpList_store_at rfl 51 _ _ rfl wr.heap.size (at_new wr 51 [.string ⟨#[]⟩, .slice none 0 0]) [.string g.nm, g.v] rfl rfl rfl infoFile (all2 rfl (by rw [HVG.out]; rfl)) ?_
      intro w4 hA4 hg4
      have hU4 := ((Up.refl wr).alloc (.cells [.string ⟨#[]⟩, .slice none 0 0].toArray 51)).by hg4 (fun g hg => by have := Option.some.inj hg; omega)
      have HU4 := Hid.of (HU.out.trans hU4)
      have HM4 := Hid.of (HM.out.up hU4)
      have c0 := hA4.cell (i := 0) rfl
      have HK := Hid.of (keyS g.nm (by rw [Go.Lib.size_eq]; exact nm_len HNj.out))
      generalize wr.heap.size = bo at *
      clear hA4 hg4 HR hU4
      simp only [Act.put]
      go_wp2_with (with_reducible show wpList _ _ _ ({ dst := _, op := Op.lookup 104 _ _ _, type := _, pos := _, after := _, guard := _ } :: _) _ _; refine Shut.out ?_)
      show wpList _ _ _ _ _ _
      refine wpList_lookup_own_int _ rfl _ _ 104 rfl 9 3 .i64 (Maps.string_keyed Tryd.underlying9) Tryd.underlying104 Tryd.underlying3 (Tryd.zeroValue3 _) M j dm rfl HM4.out _ (kS g.nm) rfl HK.out ?_
      intro cc hcc _
      have hb := HC.out.val _ cc hcc
      rw [HJj.out] at hb
      have hw : IntKind.i64.wrap (cc + 1) = cc + 1 := by rw [IntKind.wrap_i64]; omega
      have hwf : (Lit.int .i64 (cc + 1)).wf = true := by simp [Lit.wf, IntKind.min, IntKind.max, IntKind.signed, IntKind.bits]; omega
      have HS := Hid.of (HC.out.step (World.ownsMap.isMap HM4.out) (World.ownsMap.tidy HM4.out (Maps.string_keyed Tryd.underlying9)) g.nm.data.toList cc hb.1 (by rw [HJj.out]; exact hb.2))
      clear hcc
      simp only [Act.put, List.setIfInBounds_toArray, List.set_cons_zero, List.set_cons_succ]
      go_wp2_with (with_reducible show wpList _ _ _ ({ dst := _, op := Op.mapUpdate 104 _ _ _, type := _, pos := _, after := _, guard := _ } :: _) _ _; refine Shut.out ?_)
      show wpList _ _ _ _ _ _
      refine wpList_mapUpdate_own _ rfl _ _ _ 104 rfl 9 3 (Maps.string_keyed Tryd.underlying9) Tryd.underlying104 (plainElem Tryd.prog 3) M j dm rfl HM4.out (by simp only [maxLen]; omega) _ _ (kS g.nm) rfl rfl HK.out (.lit (.int .i64 (cc + 1))) [] (plainElem_int Tryd.underlying3 hwf) ?_
      intro w5 o5 g5
      have HO5 := Hid.of o5
      have HU5 := Hid.of (HU4.out.by g5 (fun k hk => by have := Option.some.inj hk; have := HMw.out; omega))
      clear o5 g5 hw hwf c0
      simp only [Act.put]
      go_wp2
      go_roundw
      all_goals first
        | exact ⟨j + 1, by go_num, by omega, Hid.of ⟨_, HO5.out, by rw [HT.out]; exact HS.out, HU5.out⟩⟩
        | (simp [intOf]; omega)
    · have hjz : ¬ (j : Int) < (fs.length : Int) := by omega
      rw [show fs.take j = fs from List.take_of_length_le (by omega)] at HC
      have hsz := HC.out.le
      have hse := HC.out.eq
      simp only [nmsOf, List.length_map] at hsz hse
      have HE := Hid.of (show decide (Maps.size dm < fs.length) = decide (¬ (nmsOf fs).Nodup) by
        rw [decide_eq_decide]
        rw [← hse]
        omega)
      clear hsz hse
      go_wp2_with (with_reducible show wpList _ _ _ ({ dst := _, op := Op.call { callee := Callee.builtin Builtin.len, args := _, argTypes := #[104] }, type := _, pos := _, after := _, guard := _ } :: _) _ _; refine Shut.out ?_)
      show wpList _ _ _ _ _ _
      refine wpList_len_own _ rfl _ 104 rfl 9 3 Tryd.underlying104 (plainElem Tryd.prog 3) M j dm rfl HM.out ?_
      generalize Maps.size dm = sz at *
      simp only [Act.put, List.setIfInBounds_toArray, List.set_cons_zero, List.set_cons_succ]
      go_wp2
      go_ret
      rw [← HE.out]
      exact ⟨rfl, HU.out⟩
set_option maxRecDepth 100000 in
set_option maxHeartbeats 4000000 in
theorem fit_gen (room : Nat) (a : Option Addr) (fs : List GF) (c : Nat) (w : World) (hF : FsL w a fs c) (hr : room ≤ 1099511627776) (hlen : fs.length ≤ 1000000) :
    Calls Tryd.prog 48 #[.int .i64 (room : Int), .slice a fs.length c] w fun e w' => e = .returned (.bool (decide ((fs.map fun g => g.ds.length).sum ≤ room))) ∧ Up w w' := by
  have HF := Hid.of hF
  have hcap := hF.cap
  clear hF
  go_enter Tryd.func48, Tryd.ntmps48
  go_wp2
  go_loopw [0, 6, 9] (fun v0 _ v9 wr => ∃ j r : Nat, v9 = .int .i64 (j : Int) ∧ j ≤ fs.length ∧ v0 = .int .i64 (r : Int) ∧ r ≤ room ∧ Hid (Up w wr ∧ r + ((fs.take j).map fun g => g.ds.length).sum = room)) (fun _ _ v9 _ => fs.length - (intOf v9).toNat)
  case atStart => exact ⟨0, room, rfl, by omega, rfl, by omega, Hid.of ⟨Up.refl _, by simp⟩⟩
  case round =>
    obtain ⟨j, r, rfl, hj, rfl, hrr, hQ⟩ := hrel
    have HU := Hid.of hQ.out.1
    have HE := Hid.of hQ.out.2
    clear hQ
    by_cases hjl : j < fs.length
    · have hjz : (j : Int) < (fs.length : Int) := by omega
      obtain ⟨b, off, rfl, k1, k2⟩ := (HF.out.up HU.out).cells j hjl
      have HSb := Hid.of ((HF.out.up HU.out).sb fs[j] (List.getElem_mem hjl))
      have HR := Hid.of (range2 k1 k2)
      have HT := Hid.of (show ((fs.take (j + 1)).map fun g => g.ds.length).sum = ((fs.take j).map fun g => g.ds.length).sum + fs[j].ds.length by
        rw [List.take_succ_eq_append_getElem hjl, List.map_append, List.sum_append]
        simp)
      have HLe := Hid.of (show ((fs.take (j + 1)).map fun g => g.ds.length).sum ≤ (fs.map fun g => g.ds.length).sum by
        rw [List.map_take]
        exact sum_take_le _ _)
      obtain ⟨g, hg⟩ : ∃ g, fs[j] = g := ⟨_, rfl⟩
      rw [hg] at HSb HR HT
      clear k1 k2 hg
      obtain ⟨ag, cg, hvg, hm1, hm2, _⟩ := id HSb.out
      have HVG := Hid.of hvg
      clear hvg
      go_wp2_with (with_reducible show wpList _ _ _ ({ dst := _, op := Op.indexAddr 52 _ _, type := _, pos := _, after := _, guard := _ } :: _) _ _; refine Shut.out ?_)
      show wpList _ _ _ _ _ _
      refine wpList_val7' (.pointer (some ⟨b, off + j * 2, none⟩)) rfl (exec_idxFile j hjl rfl rfl rfl) ?_
      simp only [Act.put, List.setIfInBounds_toArray, List.set_cons_zero, List.set_cons_succ]
      refine wpList_load_mid rfl _ _ rfl b (off + j * 2) rfl [.string g.nm, g.v] _ HR.out Tryd.underlying51 rfl infoFile ?_
      simp only [Act.put, List.setIfInBounds_toArray, List.set_cons_zero, List.set_cons_succ]
      go_wp2_with (with_reducible show wpList _ _ _ ({ dst := _, op := Op.store 51 _ _, type := _, pos := _, after := _, guard := _ } :: _) _ _; refine Shut.out ?_)
      show wpList _ _ _ _ _ _
      refine wpList_store_at rfl 51 _ _ rfl wr.heap.size (at_new wr 51 [.string ⟨#[]⟩, .slice none 0 0]) [.string g.nm, g.v] rfl rfl rfl infoFile (all2 rfl (by rw [HVG.out]; rfl)) ?_
      intro w4 hA4 hg4
      have hU4 := ((Up.refl wr).alloc (.cells [.string ⟨#[]⟩, .slice none 0 0].toArray 51)).by hg4 (fun g hg => by have := Option.some.inj hg; omega)
      have HU4 := Hid.of (HU.out.trans hU4)
      rw [HVG.out] at hA4
      have c1 := hA4.cell (i := 1) rfl
      obtain ⟨m, hm⟩ : ∃ m, g.ds.length = m := ⟨_, rfl⟩
      rw [hm] at c1 HT hm1
      generalize wr.heap.size = bo at *
      clear hA4 hg4 HR hU4 hm
      simp only [Act.put]
      have hmx : (m : Int) ≤ 9223372036854775807 := by simp only [maxLen] at hm2; omega
      by_cases hmr : r < m
      · have hmz : (r : Int) < (m : Int) := by omega
        have HD := Hid.of (show decide ((fs.map fun g => g.ds.length).sum ≤ room) = false by
          rw [decide_eq_false_iff_not]
          have := HLe.out; have := HT.out; have := HE.out
          omega)
        go_wp2
        go_ret
        rw [HD.out]
        exact ⟨rfl, HU4.out⟩
      · have hmz : ¬ (r : Int) < (m : Int) := by omega
        have hsub : (r : Int) - (m : Int) = ((r - m : Nat) : Int) := by omega
        have HN := Hid.of (show (r - m) + ((fs.take (j + 1)).map fun g => g.ds.length).sum = room by have := HT.out; have := HE.out; omega)
        have hrm : r - m ≤ room := by omega
        generalize r - m = r2 at *
        go_wp2
        go_roundw
        all_goals first
          | exact ⟨j + 1, r2, by go_num, by omega, rfl, by omega, Hid.of ⟨HU4.out.drew, HN.out⟩⟩
          | exact ⟨j + 1, r2, by go_num, by omega, rfl, by omega, Hid.of ⟨HU4.out, HN.out⟩⟩
          | (simp [intOf]; omega)
    · have hjz : ¬ (j : Int) < (fs.length : Int) := by omega
      rw [show fs.take j = fs from List.take_of_length_le (by omega)] at HE
      have HD := Hid.of (show decide ((fs.map fun g => g.ds.length).sum ≤ room) = true by
        rw [decide_eq_true_iff]
        have := HE.out
        omega)
      go_wp2
      go_ret
      rw [HD.out]
      exact ⟨rfl, HU.out⟩
end Go.Proofs.YtepakbghhnkcfaaDoor
namespace Go.Proofs.YtepakbghhnkcfaaDoor
open Go.RowKit Go.Shelf TextNum ModNum
/-- what Load answers -/
def ldE (room : Int) (fs : List GF) : Int :=
  if room < 0 ∨ 1099511627776 < room then 1 else if ¬ (∀ g ∈ fs, isNm g.nm.data.toList = true) then 120 else if ¬ (nmsOf fs).Nodup then 122 else if ¬ (((fs.map fun g => g.ds.length).sum : Nat) : Int) ≤ room then 123 else 0
set_option maxRecDepth 100000 in
set_option maxHeartbeats 4000000 in
theorem Load_gen (room : Int) (a : Option Addr) (fs : List GF) (c : Nat) (w : World) (hF : FsL w a fs c) (hlen : fs.length ≤ 1000000) (hG : ML w) (hV : 0 < w.heap.size) :
    Calls Tryd.prog 19 #[.int .i64 room, .slice a fs.length c] w fun e w' => Up w w' ∧ ((ldE room fs ≠ 0 ∧ e = .returned (.tuple #[.pointer none, .int .i64 (ldE room fs)])) ∨ (ldE room fs = 0 ∧ ∃ D s w1, Up w w1 ∧ e = .returned (.tuple #[pv D, .int .i64 0]) ∧ Laid w1 w' D room.toNat fs s)) := by
  have HF := Hid.of hF
  have HG := Hid.of hG
  have HV := Hid.of hV
  have hcap := hF.cap
  clear hF hG hV
  by_cases hr0 : room < 0
  · have HE := Hid.of (show ldE room fs = 1 from if_pos (.inl hr0))
    go_enter Tryd.func19, Tryd.ntmps19
    go_wp2
    go_ret2
    rw [HE.out]
    exact ⟨Up.refl _, .inl ⟨by decide, rfl⟩⟩
  by_cases hr1 : 1099511627776 < room
  · have HE := Hid.of (show ldE room fs = 1 from if_pos (.inr hr1))
    go_enter Tryd.func19, Tryd.ntmps19
    go_wp2
    go_ret2
    rw [HE.out]
    exact ⟨Up.refl _, .inl ⟨by decide, rfl⟩⟩
  obtain ⟨rm, rfl⟩ : ∃ rm : Nat, room = rm := ⟨room.toNat, by omega⟩
  have HE0 := Hid.of (show ldE rm fs = if ¬ (∀ g ∈ fs, isNm g.nm.data.toList = true) then 120 else if ¬ (nmsOf fs).Nodup then 122 else if ¬ (((fs.map fun g => g.ds.length).sum : Nat) : Int) ≤ rm then 123 else 0 from if_neg (by omega))
  go_enter Tryd.func19, Tryd.ntmps19
  go_wp2
  go_loopw [7, 16] (fun _ v16 wr => ∃ j : Nat, v16 = .int .i64 (j : Int) ∧ j ≤ fs.length ∧ Hid (Up w wr ∧ ∀ g ∈ fs.take j, isNm g.nm.data.toList = true)) (fun _ v16 _ => fs.length - (intOf v16).toNat)
  case atStart => exact ⟨0, rfl, by omega, Hid.of ⟨Up.refl _, fun g hg => by cases hg⟩⟩
  case round =>
    obtain ⟨j, rfl, hj, hQ⟩ := hrel
    have HU := Hid.of hQ.out.1
    have HA := Hid.of hQ.out.2
    clear hQ
    by_cases hjl : j < fs.length
    · have hjz : (j : Int) < (fs.length : Int) := by omega
      obtain ⟨b, off, rfl, k1, k2⟩ := (HF.out.up HU.out).cells j hjl
      have HSb := Hid.of ((HF.out.up HU.out).sb fs[j] (List.getElem_mem hjl))
      have HR := Hid.of (range2 k1 k2)
      have HT := Hid.of (show isNm fs[j].nm.data.toList = true → ∀ g ∈ fs.take (j + 1), isNm g.nm.data.toList = true from fun h g hg => by
        rw [List.take_succ_eq_append_getElem hjl] at hg
        rcases List.mem_append.1 hg with hg | hg
        · exact HA.out g hg
        · obtain rfl := List.mem_singleton.1 hg
          exact h)
      have HNo := Hid.of (show isNm fs[j].nm.data.toList = false → ldE rm fs = 120 from fun h => HE0.out.trans (if_pos (fun hall => by rw [hall fs[j] (List.getElem_mem hjl)] at h; cases h)))
      obtain ⟨g, hg⟩ : ∃ g, fs[j] = g := ⟨_, rfl⟩
      rw [hg] at HSb HR HT HNo
      clear k1 k2 hg
      obtain ⟨ag, cg, hvg, _⟩ := id HSb.out
      have HVG := Hid.of hvg
      clear hvg
      go_wp2_with (with_reducible show wpList _ _ _ ({ dst := _, op := Op.indexAddr 52 _ _, type := _, pos := _, after := _, guard := _ } :: _) _ _; refine Shut.out ?_)
      show wpList _ _ _ _ _ _
      refine wpList_val7' (.pointer (some ⟨b, off + j * 2, none⟩)) rfl (exec_idxFile j hjl rfl rfl rfl) ?_
      simp only [Act.put, List.setIfInBounds_toArray, List.set_cons_zero, List.set_cons_succ]
      refine wpList_load_mid rfl _ _ rfl b (off + j * 2) rfl [.string g.nm, g.v] _ HR.out Tryd.underlying51 rfl infoFile ?_
      simp only [Act.put, List.setIfInBounds_toArray, List.set_cons_zero, List.set_cons_succ]
      go_wp2_with (with_reducible show wpList _ _ _ ({ dst := _, op := Op.store 51 _ _, type := _, pos := _, after := _, guard := _ } :: _) _ _; refine Shut.out ?_)
      show wpList _ _ _ _ _ _
      refine wpList_store_at rfl 51 _ _ rfl wr.heap.size (at_new wr 51 [.string ⟨#[]⟩, .slice none 0 0]) [.string g.nm, g.v] rfl rfl rfl infoFile (all2 rfl (by rw [HVG.out]; rfl)) ?_
      intro w4 hA4 hg4
      have hU4 := ((Up.refl wr).alloc (.cells [.string ⟨#[]⟩, .slice none 0 0].toArray 51)).by hg4 (fun g hg => by have := Option.some.inj hg; omega)
      have HU4 := Hid.of (HU.out.trans hU4)
      have c0 := hA4.cell (i := 0) rfl
      have HIs := Hid.of (isName_walk g.nm w4 (HG.out.up HU4.out))
      generalize wr.heap.size = bo at *
      clear hA4 hg4 HR hU4
      simp only [Act.put]
      cases hn : isNm g.nm.data.toList with
      | false =>
        rw [hn] at HIs
        have HEr := Hid.of (HNo.out hn)
        clear hn
        go_wp2_with fail
        refine HIs.out.mono ?_
        rintro e w5 ⟨rfl, u5⟩
        have HU5 := Hid.of (HU4.out.trans u5)
        clear u5 c0
        dsimp only
        go_wp2
        go_ret2
        rw [HEr.out]
        exact ⟨HU5.out, .inl ⟨by decide, rfl⟩⟩
      | true =>
        rw [hn] at HIs
        have HTr := Hid.of (HT.out hn)
        clear hn
        go_wp2_with fail
        refine HIs.out.mono ?_
        rintro e w5 ⟨rfl, u5⟩
        have HU5 := Hid.of (HU4.out.trans u5)
        clear u5 c0
        dsimp only
        go_wp2
        go_roundw
        all_goals first
          | exact ⟨j + 1, by go_num, by omega, Hid.of ⟨HU5.out, HTr.out⟩⟩
          | (simp [intOf]; omega)
    · have hjz : ¬ (j : Int) < (fs.length : Int) := by omega
      rw [show fs.take j = fs from List.take_of_length_le (by omega)] at HA
      have HE1 := Hid.of (HE0.out.trans (if_neg (fun h => h HA.out)))
      have HNt := Hid.of (namedTwice_gen a fs c wr (HF.out.up HU.out) HA.out hlen)
      by_cases hnd : (nmsOf fs).Nodup
      · rw [decide_eq_false (fun h => h hnd)] at HNt
        have HE2 := Hid.of (HE1.out.trans (if_neg (fun h => h hnd)))
        have HNd := Hid.of hnd
        clear hnd HE1 HE0
        go_wp2_with fail
        refine HNt.out.mono ?_
        rintro e w5 ⟨rfl, u5⟩
        have HU5 := Hid.of (HU.out.trans u5)
        clear u5 HNt
        dsimp only
        have HFt := Hid.of (fit_gen rm a fs c w5 (HF.out.up HU5.out) (by omega) hlen)
        by_cases hft : (fs.map fun g => g.ds.length).sum ≤ rm
        · rw [decide_eq_true hft] at HFt
          have HE3 := Hid.of (HE2.out.trans (if_neg (by omega)))
          have HFi := Hid.of hft
          clear hft HE2
          go_wp2_with fail
          refine HFt.out.mono ?_
          rintro e w6 ⟨rfl, u6⟩
          have HU6 := Hid.of (HU5.out.trans u6)
          clear u6 HFt
          dsimp only
          have HLa := Hid.of (laid_gen rm a fs c w6 (HF.out.up HU6.out) HA.out HNd.out (by have := HFi.out; omega) hlen (by omega) (HG.out.up HU6.out) (Nat.lt_of_lt_of_le HV.out HU6.out.size))
          go_wp2_with fail
          refine HLa.out.mono ?_
          rintro e w7 ⟨D, s, rfl, hL⟩
          have HL := Hid.of hL
          clear hL HLa
          dsimp only
          go_wp2
          go_ret2
          exact ⟨HU6.out.trans HL.out.up, .inr ⟨HE3.out, D, s, w6, HU6.out, rfl, HL.out⟩⟩
        · rw [decide_eq_false hft] at HFt
          have HE3 := Hid.of (HE2.out.trans (if_pos (by omega)))
          clear hft HE2
          go_wp2_with fail
          refine HFt.out.mono ?_
          rintro e w6 ⟨rfl, u6⟩
          have HU6 := Hid.of (HU5.out.trans u6)
          clear u6 HFt
          dsimp only
          go_wp2
          go_ret2
          rw [HE3.out]
          exact ⟨HU6.out, .inl ⟨by decide, rfl⟩⟩
      · rw [decide_eq_true hnd] at HNt
        have HE2 := Hid.of (HE1.out.trans (if_pos hnd))
        clear hnd HE1 HE0
        go_wp2_with fail
        refine HNt.out.mono ?_
        rintro e w5 ⟨rfl, u5⟩
        have HU5 := Hid.of (HU.out.trans u5)
        clear u5 HNt
        dsimp only
        go_wp2
        go_ret2
        rw [HE2.out]
        exact ⟨HU5.out, .inl ⟨by decide, rfl⟩⟩
end Go.Proofs.YtepakbghhnkcfaaDoor
namespace Go.Proofs.YtepakbghhnkcfaaDoor
open Go.RowKit Go.Shelf TextNum ModNum
/-- a list of ints that is read -/
def Sint (w : World) (v : Value) (cs : List Int) : Prop :=
  ∃ a c, v = .slice a cs.length c ∧ cs.length ≤ c ∧ ∀ i (h : i < cs.length), ∃ b off, a = some ⟨b, off, none⟩ ∧ w.cell? ⟨b, off + i, none⟩ = some (.int .i64 cs[i])
theorem Sint.up {w w' : World} {v : Value} {cs : List Int} (h : Sint w v cs) (k : Up w w') : Sint w' v cs := by
  obtain ⟨a, c, e, h1, h2⟩ := h
  exact ⟨a, c, e, h1, fun i hi => by obtain ⟨b, off, e1, e2⟩ := h2 i hi; exact ⟨b, off, e1, k.cell e2⟩⟩
/-- the choice number k, of 0 to most -/
def cz (cs : List Int) (k most : Nat) : Nat := if h : k < cs.length then (cs[k] % ((most : Int) + 1)).toNat else 0
theorem cz_le (cs : List Int) (k most : Nat) : cz cs k most ≤ most := by
  unfold cz
  split
  · have := Int.emod_lt_of_pos cs[k] (show (0 : Int) < (most : Int) + 1 by omega)
    have := Int.emod_nonneg cs[k] (show (most : Int) + 1 ≠ 0 by omega)
    omega
  · omega
/-- the chooser behind k calls -/
structure CH (w : World) (bn bc : Nat) (cs : List Int) (k : Nat) : Prop where
  nx : At w bn 3 [.int .i64 ((min k cs.length : Nat) : Int)]
  cv : ∃ v, At w bc 42 [v] ∧ Sint w v cs ∧ v.ownBlock ≠ some bn ∧ ∀ g, v.ownBlock = some g → g < bc
theorem CH.up {w w' : World} {bn bc k : Nat} {cs : List Int} (h : CH w bn bc cs k) (u : Up w w') : CH w' bn bc cs k := by
  obtain ⟨v, h1, h2, h3⟩ := h.cv
  exact ⟨h.nx.up u, v, h1.up u, h2.up u, h3⟩
theorem Sint.by {w w' : World} {v : Value} {cs : List Int} {row : Option Nat} (h : Sint w v cs) (g : w.grownBy w' row) (hr : ∀ k, v.ownBlock = some k → row ≠ some k) : Sint w' v cs := by
  obtain ⟨a, c, rfl, h1, h2⟩ := h
  refine ⟨a, c, rfl, h1, fun i hi => ?_⟩
  obtain ⟨b, off, rfl, h3⟩ := h2 i hi
  exact ⟨b, off, rfl, g.cell h3 (fun e => hr b rfl e.symm)⟩
theorem CH.by {w w' : World} {bn bc k N : Nat} {cs : List Int} {row : Option Nat} (h : CH w bn bc cs k) (g : w.grownBy w' row) (hr : ∀ k, row = some k → N ≤ k) (hn : bn < N) (hc : bc < N) : CH w' bn bc cs k := by
  obtain ⟨v, h1, h2, h3, h4⟩ := h.cv
  refine ⟨h.nx.by g (fun e => by have := hr _ e; omega), v, h1.by g (fun e => by have := hr _ e; omega), h2.by g (fun k hk e => by have := hr _ e; have := h4 k hk; omega), h3, h4⟩
abbrev chv (bn bc : Nat) : Value := .func (.func 78) #[] #[pv bn, pv bc]
theorem tmod_emod (c m : Int) (hm : 0 < m) : (if c.tmod m < 0 then c.tmod m + m else c.tmod m) = c % m := by
  have h1 := Int.emod_nonneg c (show m ≠ 0 by omega)
  have h2 := Int.emod_lt_of_pos c hm
  rw [Int.tmod_eq_emod]
  have hs : (m.natAbs : Int) = m := by omega
  split <;> (split <;> omega)
set_option maxRecDepth 100000 in
set_option maxHeartbeats 2000000 in
theorem chooser1_walk (bn bc k most : Nat) (cs : List Int) (w : World) (h : CH w bn bc cs k) (hm : most ≤ 1099511627776) (hl : cs.length ≤ 1152921504606846976) :
    Calls Tryd.prog 78 #[.int .i64 (most : Int), pv bn, pv bc] w fun e w' => e = .returned (.int .i64 ((cz cs k most : Nat) : Int)) ∧ CH w' bn bc cs (k + 1) ∧ w.grownBy w' (some bn) := by
  have c1 := h.nx.cell (i := 0) rfl
  have t1 := h.nx.thaw 0
  obtain ⟨v, hv, hS, hne, hlow⟩ := h.cv
  have HLow := Hid.of hlow
  have HCv := Hid.of hv
  have HS := Hid.of hS
  have HNx := Hid.of h.nx
  have HNe := Hid.of hne
  obtain ⟨a, c, rfl, hc, hcell⟩ := hS
  have c2 := hv.cell (i := 0) rfl
  have HCell := Hid.of hcell
  clear h hv hcell hne hlow
  by_cases hk : k < cs.length
  · have hmin : min k cs.length = k := by omega
    rw [hmin] at c1 HNx
    obtain ⟨b, off, rfl, k3⟩ := HCell.out k hk
    have hke : ((k : Int) == (cs.length : Int)) = false := by rw [beq_eq_false_iff_ne]; omega
    have hkz : (k : Int) < (cs.length : Int) := by omega
    have hcz : (cs.length : Int) ≤ (c : Int) := by omega
    have HR := Hid.of (show ((cz cs k most : Nat) : Int) = (if cs[k].tmod ((most : Int) + 1) < 0 then cs[k].tmod ((most : Int) + 1) + ((most : Int) + 1) else cs[k].tmod ((most : Int) + 1)) by
      rw [tmod_emod _ _ (by omega)]
      unfold cz
      rw [dif_pos hk]
      have := Int.emod_nonneg cs[k] (show (most : Int) + 1 ≠ 0 by omega)
      omega)
    have hA1 := HNx.out.set 0 (.int .i64 ((k : Int) + 1))
    have hg1 := grown_at w bn 0 (.int .i64 ((k : Int) + 1))
    have HP := Hid.of (show CH (w.setCell ⟨bn, 0, none⟩ (.int .i64 ((k : Int) + 1))) bn bc cs (k + 1) ∧ w.grownBy (w.setCell ⟨bn, 0, none⟩ (.int .i64 ((k : Int) + 1))) (some bn) from ⟨⟨by
        rw [show min (k + 1) cs.length = k + 1 by omega]
        exact hA1, _, HCv.out.by hg1 (fun e => HNx.out.ne HCv.out (by decide) (Option.some.inj e)), by
        obtain ⟨a2, c2, e2, h1, h2⟩ := HS.out
        refine ⟨a2, c2, e2, h1, fun i hi => ?_⟩
        obtain ⟨b2, off2, e3, h3⟩ := h2 i hi
        refine ⟨b2, off2, e3, hg1.cell h3 (fun e => HNe.out ?_)⟩
        rw [e2, e3]
        exact e, HNe.out, HLow.out⟩, hg1⟩)
    obtain ⟨x, hx⟩ : ∃ x, cs[k] = x := ⟨_, rfl⟩
    rw [hx] at k3 HR
    have hb1 := Int.tmod_lt_of_pos x (show (0 : Int) < (most : Int) + 1 by omega)
    have hb2 : -((most : Int) + 1) < x.tmod ((most : Int) + 1) := by
      have h3 := Int.tmod_lt_of_pos (-x) (show (0 : Int) < (most : Int) + 1 by omega)
      rw [Int.neg_tmod] at h3
      omega
    have hm0 : (((most : Int) + 1) == 0) = false := by rw [beq_eq_false_iff_ne]; omega
    generalize hr : x.tmod ((most : Int) + 1) = r at *
    clear hA1 hg1 hx
    by_cases hneg : r < 0
    · rw [if_pos hneg] at HR
      go_enter Tryd.func78, Tryd.ntmps78
      go_wp2
      go_ret
      rw [HR.out]
      exact ⟨by first | rfl | (congr 3; omega), HP.out⟩
    · rw [if_neg hneg] at HR
      go_enter Tryd.func78, Tryd.ntmps78
      go_wp2
      go_ret
      rw [HR.out]
      exact ⟨rfl, HP.out⟩
  · have hmin : min k cs.length = cs.length := by omega
    rw [hmin] at c1 HNx
    have HR := Hid.of (show cz cs k most = 0 from dif_neg hk)
    have HP := Hid.of (show CH w bn bc cs (k + 1) from ⟨by rw [show min (k + 1) cs.length = cs.length by omega]; exact HNx.out, _, HCv.out, HS.out, HNe.out, HLow.out⟩)
    go_enter Tryd.func78, Tryd.ntmps78
    go_wp2
    go_ret
    rw [HR.out]
    exact ⟨rfl, HP.out, grown_refl _ _⟩
set_option maxRecDepth 100000 in
set_option maxHeartbeats 1000000 in
theorem chooser_walk (v : Value) (cs : List Int) (w : World) (h : Sint w v cs) (hv : ∀ g, v.ownBlock = some g → g < w.heap.size) : Calls Tryd.prog 63 #[v] w fun e w' => ∃ bn bc, e = .returned (chv bn bc) ∧ CH w' bn bc cs 0 ∧ w.heap.size ≤ bn ∧ w.heap.size ≤ bc ∧ Up w w' := by
  have HS := Hid.of h
  have HV := Hid.of hv
  obtain ⟨a, c, rfl, _⟩ := h
  have HB := Hid.of (at_new w 42 [.slice a cs.length c])
  have hb := at_new (w.alloc (.cells [.slice a cs.length c].toArray 42)) 3 [.int .i64 0]
  rw [alloc_size] at hb
  have HN := Hid.of hb
  have HU := Hid.of (((Up.refl w).alloc (.cells [.slice a cs.length c].toArray 42)).alloc (.cells [.int .i64 0].toArray 3))
  have HB2 := Hid.of (HB.out.up ((Up.refl _).alloc (.cells [.int .i64 0].toArray 3)))
  clear hb hv
  go_enter Tryd.func63, Tryd.ntmps63
  go_wp2
  go_ret
  exact ⟨w.heap.size + 1, w.heap.size, rfl, ⟨by rw [Nat.zero_min]; exact HN.out, _, HB2.out, HS.out.up HU.out, (fun e => by have := HV.out _ e; omega), fun g hg => HV.out g hg⟩, by omega, by omega, HU.out⟩
end Go.Proofs.YtepakbghhnkcfaaDoor
namespace Go.Proofs.YtepakbghhnkcfaaDoor
open Go.RowKit Go.Shelf TextNum ModNum
theorem Sb.take {w : World} {a : Option Addr} {ds : List UInt8} {c : Nat} (h : Sb w (.slice a ds.length c) ds) (n : Nat) (hn : n ≤ ds.length) : Sb w (.slice a n c) (ds.take n) := by
  obtain ⟨a2, c2, e, h1, h2, h3, h4⟩ := h
  injection e with e1 _ e3
  subst e1 e3
  have hl : (ds.take n).length = n := by rw [List.length_take]; omega
  refine ⟨a, c, by rw [hl], by rw [hl]; omega, h2, fun e => ?_, fun ad e => ⟨fun hne => (h4 ad e).1 (fun e2 => hne (by rw [e2]; simp)), fun j u hj => (h4 ad e).2 j u ?_⟩⟩
  · have := h3 e
    rw [this.1]
    exact ⟨by simp, this.2⟩
  · unfold cb at hj ⊢
    rw [List.map_take] at hj
    have hjn : j < n := by
      have := (List.getElem?_eq_some_iff.1 hj).1
      rw [List.length_take] at this
      omega
    rw [List.getElem?_take, if_pos hjn] at hj
    exact hj
set_option maxRecDepth 100000 in
set_option maxHeartbeats 1000000 in
/-- the first n bytes of a loose write once more -/
theorem write1_part (B : Nat) (vo vk : Value) (xs ds : List UInt8) (p ba bk n : Nat) (w : World) (ho : Ow w B vo xs) (hd : Sb w vk ds) (hn : n ≤ ds.length) (hne : vk.ownBlock = none ∨ vk.ownBlock ≠ vo.ownBlock)
    (hca : w.cell? ⟨ba, 0, none⟩ = some (.int .i64 (p : Int))) (hck : w.cell? ⟨bk, 0, none⟩ = some vk)
    (hp : p ≤ 1099511627776) (hxs : xs.length ≤ 35184372088832) (hds : ds.length ≤ 35184372088832) (hB : B ≤ w.heap.size) :
    Calls Tryd.prog 56 #[vo, .int .i64 (n : Int), pv ba, pv bk] w fun e w' => ∃ v', e = .returned v' ∧ Ow w' B v' (wr xs p (ds.take n)) ∧ w.grownBy w' vo.ownBlock ∧ Frs w vo v' := by
  obtain ⟨a, c, rfl, h1, h2, h3, h4⟩ := hd
  have hS : Sb w (.slice a ds.length c) ds := ⟨a, c, rfl, h1, h2, h3, h4⟩
  have HC := Hid.of (written_walk B vo (.slice a n c) xs (ds.take n) p w.drew ho (hS.take n hn) (by cases a <;> exact hne) hp hxs (by rw [List.length_take]; omega) hB)
  have q1 : (n : Int) ≤ (c : Int) := by omega
  clear ho h4 hne hxs hS
  go_enter Tryd.func56, Tryd.ntmps56
  go_wp2
  go_region_with (go_at_call 57; refine HC.out.mono ?_; rintro e w1 ⟨v1, rfl, o1, g1, f1⟩; have HO1 := Hid.of o1; have HG1 := Hid.of (grownBy_undrew g1); have HF1 := Hid.of (show Frs w vo v1 from f1); clear o1 g1 f1)
  all_goals go_wp2
  all_goals go_ret
  all_goals exact ⟨_, rfl, HO1.out, HG1.out, HF1.out⟩
/-- what leftFiles has met: names with their files -/
abbrev LG : Type := List (List UInt8 × FL)
/-- a write that is left: whose, and which -/
structure WL where
  i : Nat
  l : LW
def wlc (x : WL) : List Value := [.int .i64 x.l.tn, .int .i64 (x.l.ds.length : Int), .func (.func 56) #[] #[pv x.l.ba, pv x.l.bk], .int .i64 (x.i : Int)]
theorem wlc_one (x : WL) : ∀ u ∈ wlc x, u.oneCell' = true := fun u hu => by
  simp only [wlc, List.mem_cons, List.not_mem_nil, or_false] at hu
  rcases hu with rfl | rfl | rfl | rfl <;> rfl
def wcs (ws : List WL) : List Value := ws.flatMap wlc
theorem wcs_len : ∀ ws : List WL, (wcs ws).length = ws.length * 4
  | [] => rfl
  | x :: r => by
    show (wlc x ++ wcs r).length = _
    rw [List.length_append, wcs_len r, List.length_cons]
    simp only [wlc, List.length_cons, List.length_nil]
    omega
theorem wcs_snoc (ws : List WL) (x : WL) : wcs (ws ++ [x]) = wcs ws ++ wlc x := by simp [wcs]
/-- the writes of these files -/
def wls (gs : LG) : List WL := (gs.zipIdx).flatMap fun p => p.1.2.lo.map fun l => ⟨p.2, l⟩
theorem wls_snoc (gs : LG) (p : List UInt8 × FL) : wls (gs ++ [p]) = wls gs ++ p.2.lo.map fun l => ⟨gs.length, l⟩ := by
  unfold wls
  rw [List.zipIdx_append, List.flatMap_append]
  simp
end Go.Proofs.YtepakbghhnkcfaaDoor
