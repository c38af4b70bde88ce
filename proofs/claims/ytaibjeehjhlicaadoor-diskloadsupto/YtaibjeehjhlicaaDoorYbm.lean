import Derived.Test.YtaibjeehjhlicaaDoorYbl
namespace Go.Proofs.YtaibjeehjhlicaaDoor
open Go.RowKit Go.Shelf TextNum ModNum
theorem pw_get {fs : List GF} (h : fs.Pairwise fun g h => ∀ k, g.v.ownBlock = some k → h.v.ownBlock ≠ some k) {i j : Nat} (hi : i < fs.length) (hj : j < fs.length) (hne : i ≠ j) : ∀ k, fs[i].v.ownBlock = some k → fs[j].v.ownBlock ≠ some k := by
  rcases Nat.lt_or_ge i j with hl | hl
  · exact List.pairwise_iff_getElem.1 h i j hi hj hl
  · exact fun k hk e => List.pairwise_iff_getElem.1 h j i hj hi (by omega) k e hk
/-- a disk of one's own -/
structure BK (W w : World) (D T : Nat) (s : DD) : Prop where
  ok : DOk w W.heap.size D T s
  up : Up W w
  lo : ∀ k, own D s k → W.heap.size ≤ k
theorem BK.upTo {W w w' : World} {D T : Nat} {s : DD} (h : BK W w D T s) (u : Up w w') : BK W w' D T s := ⟨h.ok.up u, h.up.trans u, h.lo⟩
theorem up_fr {W w w' : World} {S : Nat → Prop} (h : Up W w) (lo : ∀ k, S k → W.heap.size ≤ k) (f : Fr S w w') : Up W w' :=
  ⟨f.os.trans h.os, f.tape.trans h.tape, f.output.trans h.output, Nat.le_trans h.size f.size, fun j hj => (f.block j (Nat.lt_of_lt_of_le hj h.size) (fun ho => by have := lo j ho; omega)).trans (h.block j hj)⟩
theorem BK.fr {W w w' : World} {D T : Nat} {s : DD} {S : Nat → Prop} (h : BK W w D T s) (f : Fr S w w') (hS : ∀ k, own D s k → ¬ S k) (hl : ∀ k, S k → W.heap.size ≤ k) : BK W w' D T s :=
  ⟨h.ok.fr f hS (fun hm => by
    have h1 := hl _ hm
    have h2 := h.ok.low.1
    omega), up_fr h.up hl f, h.lo⟩
theorem FOk.base {w : World} {B B' : Nat} {f : FL} (h : FOk w B f) (hb : B' ≤ B) (hl : f.lo = []) : FOk w B' f :=
  ⟨Nat.le_trans hb h.low, h.file, ow_base h.now hb, ow_base h.last hb, h.apart, ow_base h.loose hb, fun l k => by rw [hl] at k; cases k⟩
theorem DOk.base {w : World} {B B' D T : Nat} {s : DD} (h : DOk w B D T s) (hb : B' ≤ B) (hm : 0 < B') (hl : ∀ f ∈ fls s, f.lo = []) : DOk w B' D T s :=
  ⟨h.ml, ⟨hm, by have := h.low; omega, by have := h.low; omega, by have := h.low; omega⟩, Nat.le_trans hb h.hB, h.disk, h.mnow, h.isn, h.nd, h.nms, h.mlas, h.isl, h.neq, ow_base h.rowC hb, ow_base h.rowL hb, h.chk, h.lap, fun f hf => (h.fok f hf).base hb (hl f hf), h.fnd, h.apart, h.sz, h.num⟩
theorem Laid.lo0 {W w : World} {D room : Nat} {fs : List GF} {s : DD} (h : Laid W w D room fs s) : ∀ f ∈ fls s, f.lo = [] := fun f hf => by
  unfold fls at hf
  rw [h.st.2.2.2.2.1, List.append_nil] at hf
  obtain ⟨p, hp, rfl⟩ := List.mem_map.1 hf
  exact (h.sy p hp).2
theorem Laid.bk {W w3 w : World} {D room : Nat} {fs : List GF} {s : DD} (h : Laid w3 w D room fs s) (u : Up W w3) (hm : 0 < W.heap.size) : BK W w D 0 s :=
  ⟨h.ok.base u.size hm h.lo0, u.trans h.up, fun k hk => Nat.le_trans u.size (h.lo k hk)⟩
/-- what stays while the lent lists are written over -/
structure WJ (W wr : World) (N D n : Nat) (a5 : Option Addr) (c5 : Nat) (a6 : Option Addr) (c6 : Nat) (vs : List Value) (s : DD) : Prop where
  bk : BK W wr D 0 s
  gv : ∃ xs, wr.ownsRow N 29 2 (.slice a5 (n + 100) c5) (n + 100) xs
  wd : wr.ownsRow N 27 1 (.slice a6 n c6) n vs
  el : ∀ i (_ : i < vs.length), ∃ g c' m ys, vs[i] = .slice (some ⟨g, 0, none⟩) m c' ∧ wr.ownsRow N 5 1 vs[i] m ys ∧ ¬ own D s g ∧ ∀ y ∈ ys, ∃ z : Int, y = .int .u8 z
  ne : ∀ i j (_ : i < vs.length) (_ : j < vs.length), i ≠ j → ∀ g, vs[i].ownBlock = some g → vs[j].ownBlock ≠ some g
  lo : W.heap.size ≤ N
  no5 : ∀ g, (Value.slice a5 (n + 100) c5).ownBlock = some g → ¬ own D s g
theorem WJ.upTo {W wr w' : World} {N D n c5 c6 : Nat} {a5 a6 : Option Addr} {vs : List Value} {s : DD} (h : WJ W wr N D n a5 c5 a6 c6 vs s) (u : Up wr w') : WJ W w' N D n a5 c5 a6 c6 vs s :=
  ⟨h.bk.upTo u, h.gv.imp fun _ q => ow_up q u, ow_up h.wd u, fun i hi => by
    obtain ⟨g, c', m, ys, e1, e2, e3⟩ := h.el i hi
    exact ⟨g, c', m, ys, e1, ow_up e2 u, e3⟩, h.ne, h.lo, h.no5⟩
theorem WJ.byte {W wr : World} {N D n c5 c6 : Nat} {a5 a6 : Option Addr} {vs : List Value} {s : DD} (h : WJ W wr N D n a5 c5 a6 c6 vs s) {i : Nat} (hi : i < vs.length) {g m c' : Nat} (hv : vs[i] = .slice (some ⟨g, 0, none⟩) m c') (j : Nat) (z : Int) : WJ W (wr.setCell ⟨g, j, none⟩ (.int .u8 z)) N D n a5 c5 a6 c6 vs s := by
  obtain ⟨u, hu⟩ : ∃ u, Value.int .u8 z = u := ⟨_, rfl⟩
  rw [hu]
  obtain ⟨g', c2, m', ys, e1, e2, e3, e7⟩ := h.el i hi
  rw [hv] at e1 e2
  injection e1 with e4 e5 e6
  injection e4 with e4
  injection e4 with e4
  subst e4
  subst e5
  obtain ⟨p1, p2⟩ := World.ownsRow.stored e2 j u
  have hg : N ≤ g := (World.ownsRow.lt e2 g rfl).1
  obtain ⟨xs, hx⟩ := h.gv
  have hf : Fr (fun k => k = g) wr (wr.setCell ⟨g, j, none⟩ u) := (Fr.refl (fun k => k = g) wr).by p2 (fun b hb => .inl (Option.some.inj hb).symm)
  refine ⟨h.bk.fr hf (fun k hk e => e3 (by have e' : k = g := e; exact e' ▸ hk)) (fun k e => by have e' : k = g := e; have := h.lo; omega), ⟨xs, World.ownsRow.kept hx p2 (own_off' hx e2 (by decide))⟩, World.ownsRow.kept h.wd p2 (own_off' h.wd e2 (by decide)), fun k hk => ?_, h.ne, h.lo, h.no5⟩
  by_cases hki : k = i
  · subst hki
    refine ⟨g, c', m, ys.set j u, hv, ?_, e3, fun y hy => (List.mem_or_eq_of_mem_set hy).elim (e7 y) (fun e => ⟨z, e.trans hu.symm⟩)⟩
    rw [hv]
    exact p1
  · obtain ⟨g2, c3, m2, ys2, f1, f2, f3⟩ := h.el k hk
    exact ⟨g2, c3, m2, ys2, f1, World.ownsRow.kept f2 p2 (.inr (fun e => h.ne k i hk hi hki g e (by rw [hv]; rfl))), f3⟩
theorem WJ.name {W wr : World} {N D n c5 c6 g5 : Nat} {a6 : Option Addr} {vs : List Value} {s : DD} (h : WJ W wr N D n (some ⟨g5, 0, none⟩) c5 a6 c6 vs s) (j : Nat) (u : Value) : WJ W (wr.setCell ⟨g5, j, none⟩ u) N D n (some ⟨g5, 0, none⟩) c5 a6 c6 vs s := by
  obtain ⟨xs, hx⟩ := h.gv
  obtain ⟨p1, p2⟩ := World.ownsRow.stored hx j u
  have hg : N ≤ g5 := (World.ownsRow.lt hx g5 rfl).1
  have hf : Fr (fun k => k = g5) wr (wr.setCell ⟨g5, j, none⟩ u) := (Fr.refl (fun k => k = g5) wr).by p2 (fun b hb => .inl (Option.some.inj hb).symm)
  refine ⟨h.bk.fr hf (fun k hk e => h.no5 g5 rfl (by have e' : k = g5 := e; exact e' ▸ hk)) (fun k e => by have e' : k = g5 := e; have := h.lo; omega), ⟨_, p1⟩, World.ownsRow.kept h.wd p2 (own_off' h.wd hx (by decide)), fun k hk => ?_, h.ne, h.lo, h.no5⟩
  obtain ⟨g2, c3, m2, ys2, f1, f2, f3⟩ := h.el k hk
  exact ⟨g2, c3, m2, ys2, f1, World.ownsRow.kept f2 p2 (own_off' f2 hx (by decide)), f3⟩
theorem Lent.wj {W w5 wr : World} {N D n c5 c6 : Nat} {a5 a6 : Option Addr} {fs : List GF} {vs : List Value} {s : DD} (h5 : Lent w5 N a5 c5 n fs 100 a6 c6 n vs) (h : Lent wr N a5 c5 n fs 100 a6 c6 n vs) (hb : BK W wr D 0 s) (hlo : ∀ k, own D s k → w5.heap.size ≤ k) (hN : W.heap.size ≤ N) : WJ W wr N D n a5 c5 a6 c6 vs s := by
  have hn : (fs ++ List.replicate 100 hsh).length = n + 100 := by rw [List.length_append, List.length_replicate, h.fl]
  have hr := h.out.row
  have hr5 := h5.out.row
  rw [hn] at hr hr5
  refine ⟨hb, ⟨_, hr⟩, h.row, fun i hi => ?_, fun i j hi hj hne g hg hg2 => ?_, hN, fun g hg ho => ?_⟩
  · have hif : i < fs.length := by rw [h.fl, ← h.vl]; exact hi
    obtain ⟨g, c', e1, e2, e3⟩ := h.el i hif hi
    obtain ⟨g', c2, f1, f2, f3⟩ := h5.el i hif hi
    rw [f2] at e2
    injection e2 with e4
    injection e4 with e4
    injection e4 with e4
    subst e4
    refine ⟨g', c2, _, cb (fs[i].ds ++ List.replicate 300 9), f2, ?_, fun ho => ?_, fun y hy => by unfold cb at hy; obtain ⟨b, _, rfl⟩ := List.mem_map.1 hy; exact ⟨_, rfl⟩⟩
    · have hl : (fs[i].ds ++ List.replicate 300 9 : List UInt8).length = fs[i].ds.length + 300 := by rw [List.length_append, List.length_replicate]
      unfold Ow at e3
      rw [hl] at e3
      exact e3
    · have h1 := hlo _ ho
      have h2 := (World.ownsRow.lt f3 g' (by rw [f2]; rfl)).2
      omega
  · have hif : i < fs.length := by rw [h.fl, ← h.vl]; exact hi
    have hjf : j < fs.length := by rw [h.fl, ← h.vl]; exact hj
    obtain ⟨gi, ci, e1, e2, _⟩ := h.el i hif hi
    obtain ⟨gj, cj, f1, f2, _⟩ := h.el j hjf hj
    rw [e2] at hg
    rw [f2] at hg2
    exact pw_get h.pw hif hjf hne g (by rw [e1]; exact hg) (by rw [f1]; exact hg2)
  · have h1 := hlo _ ho
    have h2 := (World.ownsRow.lt hr5 g hg).2
    omega
end Go.Proofs.YtaibjeehjhlicaaDoor
