import Derived.Test.YteijccjdejjbjaaDoorQk11
import Derived.Laws.Append
import Derived.ProofKit
namespace Go.Proofs.YteijccjdejjbjaaDoor
open Go.RowKit Go.Shelf ScalarNum

/-- one more behind a list whose room is full: new memory -/
theorem append_full8 {w : World} {ty : TypeId} {B : Nat} {v : Value} {l : List I8} (hv : NewD B w v l.length) (hS : Sl8 w v l) (hl : l.length ≤ 257) (ad : Addr) (c : Nat) (mk : I8) (hu : w.cell? (ad.add 0) = some (.int .i8 mk.1)) :
    ∃ cap w', (Builtin.append_ #[30, 30] ty #[v, .slice (some ad) 1 c]).run Tryd.prog w = .ok (.slice (some ⟨w.heap.size, 0, none⟩) (l.length + 1) cap) w' ∧ l.length + 1 ≤ cap ∧ Grown w w' ∧ w'.there w.heap.size 0 (l.length + 1) := by
  obtain ⟨i0, hi, hz0, hz1, hz2⟩ := info_parts Tryd.infoI8
  have hu' : ∀ j u, [Value.int .i8 mk.1][j]? = some u → w.cell? (ad.add j) = some u := by
    intro j u hj
    cases j with
    | zero => simp at hj; subst hj; exact hu
    | succ j => simp at hj
  rcases hv with ⟨rfl, hp⟩ | ⟨g, rfl, _, _, hp⟩
  · have hl0 : l = [] := List.eq_nil_of_length_eq_zero hp
    subst hl0
    have h2 := run_append_nil (P := Tryd.prog) w 30 ty 40 i0 (.int .i8 0) Tryd.underlying30 hi hz0 ad 1 c [.int .i8 mk.1] (by rw [hz1]; rfl) hu' (by decide) (by decide) (by rw [hz2]; decide)
    refine ⟨_, _, h2, grownCap_ge _ _ _ _, Grown.alloc (Grown.drew (Grown.refl _)) _ _, ?_⟩
    exact there_alloc_new w.drew 40 _ 1 (by simp)
  · obtain ⟨a1, c1, e1, _, hc⟩ := hS
    have hne : l ≠ [] := by intro e; rw [e] at hp; simp at hp
    injection e1 with ea _ _
    subst ea
    rcases hc with e | ⟨b, off, e, hb, hc⟩
    · exact absurd e hne
    · injection e with e
      injection e with eb eo
      subst eb eo
      have holds : ∀ j u, (c8 l)[j]? = some u → w.cell? ((⟨g, 0, none⟩ : Addr).add j) = some u := by
        intro j u hj
        have hjl : j < l.length := by have := (List.getElem?_eq_some_iff.1 hj).1; rwa [c8_length] at this
        rw [c8_get hjl] at hj
        rw [add_plain, hc j hjl]; exact hj
      have h2 := run_append_grow (P := Tryd.prog) w 30 ty 40 i0 (.int .i8 0) Tryd.underlying30 hi hz0 ⟨g, 0, none⟩ l.length l.length (c8 l) (by rw [hz1, c8_length, Nat.mul_one]) holds ad 1 c [.int .i8 mk.1] (by rw [hz1]; rfl) hu' (by omega) (by omega) (growslice_fits (by omega) (by rw [hz2]; omega))
      refine ⟨_, _, h2, grownCap_ge _ _ _ _, Grown.alloc (Grown.drew (Grown.refl _)) _ _, ?_⟩
      exact there_alloc_new w.drew 40 _ (l.length + 1) (by simp [c8_length])
theorem wpList_append_full8 {ops : Array Oper} {rest : List Oper} {o : Oper} {a : Act} {w : World} {t : TypeId} {Q : Exit → Act → World → Prop} (hgd : o.guard = none) (s x : Operand)
    (ho : o.op = .call { callee := .builtin .append, args := #[s, x], argTypes := #[30, 30] }) {B : Nat} {v : Value} {l : List I8} (mk : I8) (hs : a.eval s = v) (hv : NewD B w v l.length) (hS : Sl8 w v l) (hl : l.length ≤ 257)
    (c : Nat) (hx : a.eval x = .slice (some ⟨w.heap.size, 0, none⟩) 1 c)
    (h : ∀ M cap w', w.heap.size ≤ M → l.length + 1 ≤ cap → Grown w w' → w'.there M 0 (l.length + 1) → wpList Tryd.prog ops Q rest (a.put o.dst (.slice (some ⟨M, 0, none⟩) (l.length + 1) cap)) w') : wpList Tryd.prog ops Q (o :: rest) a (w.alloc (.cells #[.int .i8 mk.1] t)) := by
  refine wpList_plain hgd fun K hK => ?_
  have g0 : Grown w (w.alloc (.cells #[.int .i8 mk.1] t)) := Grown.alloc (Grown.refl _) _ _
  have hv' : NewD B (w.alloc (.cells #[.int .i8 mk.1] t)) v l.length := by
    rcases hv with h | ⟨g, h1, h2, h3, h4⟩
    · exact .inl h
    · exact .inr ⟨g, h1, h2, there_grown h3 g0, h4⟩
  obtain ⟨cap, w', hr, h1, h2, h3⟩ := append_full8 (ty := o.type) hv' (hS.lain (Lain.of g0)) hl ⟨w.heap.size, 0, none⟩ c mk (cells_new w t [.int .i8 mk.1] 0 _ rfl)
  unfold Oper.wp execOp
  simp only [ho, resolve, invoke, builtin, Sem.run_bind, Sem.run_pure, Result.andThen_ok, List.map_toArray, List.map_cons, List.map_nil, hs, hx, hr]
  exact hK _ _ (h _ cap w' g0.2.2 h1 (grown_trans g0 h2) h3)

/-- the book, of one's own -/
def OwnB (w : World) (B : Nat) (v : Value) (l : List HE) : Prop := w.ownsRow B 55 3 v l.length (hcl l)
theorem ownB_nil (w : World) (B : Nat) : OwnB w B (.slice none 0 0) [] := World.ownsRow_nil w B 55 3
theorem OwnB.lain {w w' : World} {B : Nat} {v : Value} {l : List HE} (h : OwnB w B v l) (k : Lain w w') : OwnB w' B v l := by
  refine ⟨h.1, ?_⟩
  rcases h.2 with e | ⟨g, cap, cur, e, hbg, hg, r⟩
  · exact .inl e
  · have hlt : g < w.heap.size := by
      rcases Nat.lt_or_ge g w.heap.size with h1 | h1
      · exact h1
      · rw [Array.getElem?_eq_none h1] at hg; cases hg
    exact .inr ⟨g, cap, cur, e, hbg, by rw [k.2.2.2 g hlt]; exact hg, r⟩
theorem OwnB.lt {w : World} {B : Nat} {v : Value} {l : List HE} (h : OwnB w B v l) {g : Nat} (hg : v.ownBlock = some g) : B ≤ g ∧ g < w.heap.size := World.ownsRow.lt h g hg
theorem OwnB.read {w : World} {B : Nat} {v : Value} {l : List HE} (h : OwnB w B v l) : BookR w v l := by
  have hlt := fun g (hg : v.ownBlock = some g) => h.lt hg
  rcases h.2 with ⟨rfl, e⟩ | ⟨g, cap, cur, rfl, hbg, hg, hnc, _⟩
  · exact ⟨none, 0, by rw [e], by omega, .inl (List.eq_nil_of_length_eq_zero e)⟩
  · refine ⟨_, cap, rfl, hnc, .inr ⟨g, rfl, (hlt g rfl).2, fun j u hj => ?_⟩⟩
    have := World.ownsRow.cells h (g := g) rfl j u hj
    rwa [add_plain] at this
theorem OwnB.len {w : World} {B : Nat} {v : Value} {l : List HE} (h : OwnB w B v l) : ∃ a c, v = .slice a l.length c := by
  rcases h.2 with ⟨rfl, e⟩ | ⟨g, cap, cur, rfl, _⟩
  · exact ⟨none, 0, by rw [e]⟩
  · exact ⟨_, _, rfl⟩
theorem hHl : ∃ i z, Tryd.prog.info? 55 = some i ∧ i.zero = some z ∧ i.size = 3 ∧ i.bytes = 56 ∧ z.cells.size = 3 := by
  have h : (Tryd.prog.info? 55).map (fun i => (i.zero.map (fun z => z.cells.size), i.size, i.bytes)) = some (some 3, 3, 56) := by kernel_rfl
  cases hi : Tryd.prog.info? 55 with
  | none => rw [hi] at h; simp at h
  | some i =>
    rw [hi] at h
    simp only [Option.map_some, Option.some.injEq, Prod.mk.injEq, Option.map_eq_some_iff] at h
    obtain ⟨⟨z, hz, hzs⟩, h1, h2⟩ := h
    exact ⟨i, z, rfl, hz, h1, h2, hzs⟩
theorem append_hd8 {w : World} {base : Nat} {ty : TypeId} {v : Value} {l : List HE} (hown : OwnB w base v l) (ad : Addr) (c : Nat) (e : HE) (hu : ∀ j u, (hcl [e])[j]? = some u → w.cell? (ad.add j) = some u) (h1 : ∀ u ∈ hcl [e], u.oneCell' = true)
    (hn : l.length < 1099511627776) (hbase : base ≤ w.heap.size) :
    ∃ v' w', (Builtin.append_ #[49, 49] ty #[v, .slice (some ad) 1 c]).run Tryd.prog w = .ok v' w' ∧ OwnB w' base v' (l ++ [e]) ∧ w.grownBy w' v.ownBlock ∧ (∀ g, v'.ownBlock = some g → v.ownBlock = some g ∨ w.heap.size ≤ g) := by
  obtain ⟨i, z, hi, hz, hsize, hby, hzs⟩ := hHl
  have h63 : l.length + 1 ≤ maxLen := by unfold maxLen; omega
  obtain ⟨v', w', hr, ho, hg, _⟩ := run_append_own (P := Tryd.prog) w base 49 ty 55 i z 3 56 Tryd.underlying49 hi hz hsize hby hzs (by decide) v l.length (hcl l) hown ad 1 c (hcl [e]) rfl hu h1 h63 (by omega) hbase
  refine ⟨v', w', hr, ?_, hg, ?_⟩
  · unfold OwnB
    rw [List.length_append, hcl_append]
    exact ho
  · rcases hown.2 with ⟨rfl, h0⟩ | ⟨g, cap, cur, rfl, hbg, hgg, hnc, hcm, hcs, htake⟩
    · have h2 := run_append_nil (P := Tryd.prog) w 49 ty 55 i z Tryd.underlying49 hi hz ad 1 c (hcl [e]) (by rw [hsize]; rfl) hu (by decide) (by decide) (by rw [hby]; decide)
      rw [h2] at hr
      injection hr with hv hw
      subst hw hv
      intro g hg
      injection hg with hg
      exact .inr (Nat.le_of_eq hg)
    · by_cases hroom : l.length + 1 ≤ cap
      · have h2 := run_append_room (P := Tryd.prog) w 49 ty 55 i Tryd.underlying49 hi g l.length cap cur hgg ad 1 c (hcl [e]) (by rw [hsize]; rfl) hu h1 hroom (by rw [hsize, hcs, hcl_length]; simp; omega)
        rw [h2] at hr
        injection hr with hv hw
        subst hw hv
        exact fun g hg => .inl hg
      · have holds : ∀ j x, (hcl l)[j]? = some x → w.cell? ((⟨g, 0, none⟩ : Addr).add j) = some x := World.ownsRow.cells hown (g := g) rfl
        have h2 := run_append_grow (P := Tryd.prog) w 49 ty 55 i z Tryd.underlying49 hi hz ⟨g, 0, none⟩ l.length cap (hcl l) (by rw [hsize]; exact hown.1) holds ad 1 c (hcl [e]) (by rw [hsize]; rfl) hu (by omega) (by omega) (growslice_fits (by omega) (by rw [hby]; omega))
        rw [h2] at hr
        injection hr with hv hw
        subst hw hv
        intro g hg
        injection hg with hg
        exact .inr (Nat.le_of_eq hg)
theorem wpList_append_hd8 {ops : Array Oper} {rest : List Oper} {o : Oper} {a : Act} {w : World} {t : TypeId} {Q : Exit → Act → World → Prop} (hgd : o.guard = none) (s x : Operand)
    (ho : o.op = .call { callee := .builtin .append, args := #[s, x], argTypes := #[49, 49] }) {B : Nat} {v : Value} {l : List HE} (e : HE) (hs : a.eval s = v) (hown : OwnB w B v l) (h1 : ∀ u ∈ hcl [e], u.oneCell' = true) (hn : l.length < 1099511627776) (hB : B ≤ w.heap.size)
    (c : Nat) (hx : a.eval x = .slice (some ⟨w.heap.size, 0, none⟩) 1 c)
    (h : ∀ v' w' w1, Lain w w1 → OwnB w' B v' (l ++ [e]) → w1.grownBy w' v.ownBlock → (∀ g, v'.ownBlock = some g → v.ownBlock = some g ∨ w.heap.size ≤ g) → wpList Tryd.prog ops Q rest (a.put o.dst v') w') : wpList Tryd.prog ops Q (o :: rest) a (w.alloc (.cells (hcl [e]).toArray t)) := by
  refine wpList_plain hgd fun K hK => ?_
  have g0 := (Lain.refl w).alloc (.cells (hcl [e]).toArray t)
  obtain ⟨v', w', hr, h2, h3, h4⟩ := append_hd8 (ty := o.type) (hown.lain g0) ⟨w.heap.size, 0, none⟩ c e (cells_new w t (hcl [e])) h1 hn (Nat.le_trans hB g0.2.2.1)
  unfold Oper.wp execOp
  simp only [ho, resolve, invoke, builtin, Sem.run_bind, Sem.run_pure, Result.andThen_ok, List.map_toArray, List.map_cons, List.map_nil, hs, hx, hr]
  exact hK _ _ (h v' w' _ g0 h2 h3 (fun g hg => (h4 g hg).imp id (fun h => Nat.le_trans g0.2.2.1 h)))
/-- what stands elsewhere stays, where a row is written -/
theorem Sl8.by {u u' : World} {row : Option Nat} {v : Value} {l : List I8} (h : Sl8 u v l) (hg : u.grownBy u' row) (hne : ∀ g, row = some g → v.ownBlock ≠ some g) : Sl8 u' v l := by
  obtain ⟨a, c, rfl, hc, h⟩ := h
  refine ⟨a, c, rfl, hc, ?_⟩
  rcases h with h | ⟨b, off, rfl, hb, hcell⟩
  · exact .inl h
  · refine .inr ⟨b, off, rfl, Nat.lt_of_lt_of_le hb hg.size, fun i hi => ?_⟩
    have hk := hg.block b hb (fun e => hne b e.symm rfl)
    rw [← hcell i hi]
    exact World.cell?_of_block (w := u) hk
end Go.Proofs.YteijccjdejjbjaaDoor
namespace Go.Proofs.YteijccjdejjbjaaDoor
open Go.RowKit Go.Shelf ScalarNum

theorem wpList_valG {ops : Array Oper} {Q : Exit → Act → World → Prop} {rest : List Oper} {o : Oper} {a : Act} {w : World} (v : Value) (hw : Region.wanted o (yielded ops a.tmps) = true) (hy : (execOp a.eval o).run Tryd.prog w = .ok (.value v) w)
    (h : wpList Tryd.prog ops Q rest (a.put o.dst v) w) : wpList Tryd.prog ops Q (o :: rest) a w :=
  wpList_step fun K hK => by
    rw [if_pos hw]
    unfold Oper.wp
    rw [hy]
    exact hK _ _ h
set_option maxRecDepth 100000 in
theorem numbers_walk (w : World) : Calls Tryd.prog 36 #[] w fun e w' => e = .returned (.bool true) ∧ w' = w := by
  go_enter Tryd.func36, Tryd.ntmps36
  go_wp2
  go_ret
  exact ⟨rfl, rfl⟩
/-- one call of a script, as it lies -/
structure Op1 (w : World) (p off : Nat) : Prop where
  ex : ∃ (k : Int) (a b c u : Nat) (n : Int) (d : Value) (l : List I8), a < M ∧ b < M ∧ c < M ∧ u < M * M ∧ Sl8 w d l ∧ w.rangeAt p off (opc k a b c u n d)
theorem exec_idxOp {o : Oper} {ρ : Operand → Value} {x y : Operand} {w : World} {b off n c : Nat} (i : Nat) (hi : i < n) (ho : o.op = .indexAddr 48 x y) (hx : ρ x = .slice (some ⟨b, off, none⟩) n c) (hy : ρ y = .int .i64 (i : Int)) : (execOp ρ o).run Tryd.prog w = .ok (.value (.pointer (some ⟨b, off + 163 * i, none⟩))) w := by
  have hi' : (i : Int) < (n : Int) := by omega
  unfold execOp
  simp only [ho, hx, hy]
  go_simp
set_option maxRecDepth 100000 in
set_option maxHeartbeats 1000000 in
theorem all_walk (a0 : Option Addr) (n0 c0 : Nat) (w : World) (hn0 : (n0 : Int) ≤ 9223372036854775807) (hsc : 0 < n0 → ∃ b off, a0 = some ⟨b, off, none⟩ ∧ ∀ i, i < n0 → Op1 w b (off + 163 * i)) (hG : GS w) :
    Calls Tryd.prog 14 #[.slice a0 n0 c0] w fun e w' => e = .returned (.bool true) ∧ Lain w w' := by
  have HG := Hid.of hG
  have HS := Hid.of hsc
  clear hG hsc
  go_enter Tryd.func14, Tryd.ntmps14
  go_wp2_with fail
  refine Calls.mono (numbers_walk w) ?_
  rintro e w1 ⟨rfl, rfl⟩
  dsimp only
  go_wp2_with fail
  refine Calls.mono (Order_num w1 HG.out.tb) ?_
  rintro e w2 ⟨rfl, hg2⟩
  dsimp only
  have H2 := Hid.of (Lain.of hg2)
  clear hg2
  go_wp2_with fail
  refine Calls.mono (refOrder_num w2 (HG.out.lain H2.out).od) ?_
  rintro e w3 ⟨rfl, hg3⟩
  dsimp only
  have H3 := Hid.of (H2.out.trans (Lain.of hg3))
  clear H2 hg3
  go_wp2_with (with_reducible show wpList _ _ _ ({ dst := _, op := Op.binOp .neq 23 _ _ _, type := _, pos := _, after := _, guard := _ } :: _) _ _; refine Shut.out ?_)
  show wpList _ _ _ _ _ _
  refine wpList_valG (.bool false) (by rfl) (exec_neq_same rfl L L rfl rfl L_lt_M L_lt_M rfl _) ?_
  simp only [Act.put, List.setIfInBounds_toArray, List.set_cons_zero, List.set_cons_succ]
  go_wp2
  go_loopw [3] (fun v3 wr => ∃ i : Nat, v3 = .int .i64 (i : Int) ∧ i ≤ n0 ∧ Hid (Lain w1 wr)) (fun v3 _ => n0 - (intOf v3).toNat)
  case atStart => exact ⟨0, rfl, by omega, H3⟩
  case round =>
    obtain ⟨i, rfl, hi, hL⟩ := hrel
    by_cases hlt : i < n0
    · have hlt' : (i : Int) < (n0 : Int) := by omega
      obtain ⟨b, off, rfl, hop⟩ := HS.out (by omega)
      obtain ⟨k, a, xb, c, u, n, d, l, ha, hb, hc, hu, hSl, hr⟩ := (hop i hlt).ex
      have HR := Hid.of (And.intro (hL.out.range hr) (hSl.lain hL.out))
      clear hr hSl hop
      go_wp2_with (with_reducible show wpList _ _ _ ({ dst := _, op := Op.indexAddr _ _ _, type := _, pos := _, after := _, guard := _ } :: _) _ _; refine Shut.out ?_)
      show wpList _ _ _ _ _ _
      refine wpList_val (.pointer (some ⟨b, off + 163 * i, none⟩)) rfl (exec_idxOp i hlt rfl rfl rfl) ?_
      simp only [Act.put, List.setIfInBounds_toArray, List.set_cons_zero, List.set_cons_succ]
      refine wpList_loadOp rfl _ rfl b (off + 163 * i) rfl k a xb c u n d HR.out.1 ?_
      simp only [Act.put, List.setIfInBounds_toArray, List.set_cons_zero, List.set_cons_succ]
      go_wp2_with fail
      refine Calls.mono (plays_any k a xb c u n d l ha hb hc hu wr HR.out.2 (HG.out.lain hL.out)) ?_
      rintro e w5 ⟨rfl, g5⟩
      have H5 := Hid.of (hL.out.trans g5)
      clear g5 HR hL
      dsimp only
      go_wp2
      go_roundw
      case rel => exact ⟨i + 1, by go_num, by omega, H5⟩
      case measure => simp [intOf]; omega
    · obtain rfl : i = n0 := by omega
      go_wp2
      go_ret
      exact ⟨rfl, hL.out⟩
end Go.Proofs.YteijccjdejjbjaaDoor
namespace Go.Proofs.YteijccjdejjbjaaDoor
open Go.RowKit Go.Shelf ScalarNum

/-- what the loop keeps -/
structure KJ (w wr : World) (v3 : Value) (L : List HE) : Prop where
  la : Lain w wr
  own : OwnB wr w.heap.size v3 L
  ent : ∀ i (h : i < L.length), Ent wr L[i].1 L[i].2.1 L[i].2.2
  blk : ∀ i (h : i < L.length), (∀ b, L[i].1.ownBlock = some b → b < wr.heap.size) ∧ (∀ b, L[i].2.1.ownBlock = some b → b < wr.heap.size)
  off : ∀ g, v3.ownBlock = some g → ∀ i (h : i < L.length), L[i].1.ownBlock ≠ some g ∧ L[i].2.1.ownBlock ≠ some g
theorem KJ.lain {w wr w' : World} {v3 : Value} {L : List HE} (h : KJ w wr v3 L) (g : Lain wr w') : KJ w w' v3 L :=
  ⟨h.la.trans g, h.own.lain g, fun i hi => (h.ent i hi).lain g, fun i hi => ⟨fun b hb => Nat.lt_of_lt_of_le ((h.blk i hi).1 b hb) g.2.2.1, fun b hb => Nat.lt_of_lt_of_le ((h.blk i hi).2 b hb) g.2.2.1⟩, h.off⟩
theorem Lain.by {w u u' : World} {row : Option Nat} (h : Lain w u) (hg : u.grownBy u' row) (hr : ∀ g, row = some g → w.heap.size ≤ g) : Lain w u' :=
  ⟨hg.os.trans h.1, hg.output.trans h.2.1, Nat.le_trans h.2.2.1 hg.size, fun k hk => (hg.block k (by have := h.2.2.1; omega) (fun e => by have := hr k e.symm; omega)).trans (h.2.2.2 k hk)⟩
theorem Ent.by {u u' : World} {row : Option Nat} {v1 v2 : Value} {mk : I8} (h : Ent u v1 v2 mk) (hg : u.grownBy u' row) (h1 : ∀ g, row = some g → v1.ownBlock ≠ some g ∧ v2.ownBlock ≠ some g) : Ent u' v1 v2 mk := by
  obtain ⟨p, hp, s1, s2⟩ := h
  exact ⟨p, hp, s1.by hg (fun g e => (h1 g e).1), s2.by hg (fun g e => (h1 g e).2)⟩
theorem KJ.append {w w9 w1 w10 : World} {v3 v3' : Value} {L : List HE} {e : HE} (h : KJ w w9 v3 L) (hE : Ent w9 e.1 e.2.1 e.2.2) (hb : (∀ b, e.1.ownBlock = some b → b < w9.heap.size) ∧ (∀ b, e.2.1.ownBlock = some b → b < w9.heap.size))
    (ho : ∀ g, v3.ownBlock = some g → e.1.ownBlock ≠ some g ∧ e.2.1.ownBlock ≠ some g) (hl : Lain w9 w1) (hown : OwnB w10 w.heap.size v3' (L ++ [e])) (hg : w1.grownBy w10 v3.ownBlock) (hn : ∀ g, v3'.ownBlock = some g → v3.ownBlock = some g ∨ w9.heap.size ≤ g) : KJ w w10 v3' (L ++ [e]) := by
  have hsz : w9.heap.size ≤ w10.heap.size := Nat.le_trans hl.2.2.1 hg.size
  have key : ∀ i (hi : i < (L ++ [e]).length), (∃ hi', (L ++ [e])[i] = L[i]'hi') ∨ (L ++ [e])[i] = e := by
    intro i hi
    by_cases h1 : i < L.length
    · exact .inl ⟨h1, List.getElem_append_left h1⟩
    · right
      rw [List.getElem_append_right (by omega)]
      have : i - L.length = 0 := by rw [List.length_append] at hi; simp at hi; omega
      simp [this]
  refine ⟨(h.la.trans hl).by hg (fun g e => (h.own.lt e).1), hown, fun i hi => ?_, fun i hi => ?_, fun g hg' i hi => ?_⟩
  · rcases key i hi with ⟨hi', e1⟩ | e1
    · rw [e1]; exact ((h.ent i hi').lain hl).by hg (fun g e => h.off g e i hi')
    · rw [e1]; exact (hE.lain hl).by hg ho
  · rcases key i hi with ⟨hi', e1⟩ | e1
    · rw [e1]; exact ⟨fun b hb' => Nat.lt_of_lt_of_le ((h.blk i hi').1 b hb') hsz, fun b hb' => Nat.lt_of_lt_of_le ((h.blk i hi').2 b hb') hsz⟩
    · rw [e1]; exact ⟨fun b hb' => Nat.lt_of_lt_of_le (hb.1 b hb') hsz, fun b hb' => Nat.lt_of_lt_of_le (hb.2 b hb') hsz⟩
  · rcases hn g hg' with h1 | h1
    · rcases key i hi with ⟨hi', e1⟩ | e1
      · rw [e1]; exact h.off g h1 i hi'
      · rw [e1]; exact ho g h1
    · rcases key i hi with ⟨hi', e1⟩ | e1
      · rw [e1]; exact ⟨fun e2 => by have := (h.blk i hi').1 g e2; omega, fun e2 => by have := (h.blk i hi').2 g e2; omega⟩
      · rw [e1]; exact ⟨fun e2 => by have := hb.1 g e2; omega, fun e2 => by have := hb.2 g e2; omega⟩
theorem OZ.by {u u' : World} {row : Option Nat} {p : Nat} {k : Int} {a b c x : Nat} {n : Int} {d : Value} (h : OZ u p k a b c x n d) (hg : u.grownBy u' row) (hne : row ≠ some p) : OZ u' p k a b c x n d := by
  have hp : p < u.heap.size := block_lt_of_cell h.rk
  have hc : ∀ o, u'.cell? ⟨p, o, none⟩ = u.cell? ⟨p, o, none⟩ := fun o => World.cell?_of_block (w := u) (hg.block p hp (fun e => hne e.symm))
  exact ⟨(hc _).trans h.rk, fun j v hv => (hc _).trans (h.ra j v hv), fun j v hv => (hc _).trans (h.rb j v hv), fun j v hv => (hc _).trans (h.rc j v hv), fun j v hv => (hc _).trans (h.ru j v hv), (hc _).trans h.rn, (hc _).trans h.rd⟩
theorem grownBy_refl (w : World) (r : Option Nat) : w.grownBy w r := ⟨rfl, rfl, rfl, Nat.le_refl _, fun _ _ _ => rfl⟩
theorem grownBy_set {w w' : World} {g : Nat} (h : w.grownBy w' (some g)) (o : Nat) (v : Value) : w.grownBy (w'.setCell ⟨g, o, none⟩ v) (some g) := by
  refine ⟨h.os, h.tape, h.output, by simpa [World.setCell] using h.size, fun k hk hne => ?_⟩
  rw [Below.heap_setCell _ _ _ _ (fun e => hne (by rw [e]))]
  exact h.block k hk hne
theorem by_cell {u u' : World} {row : Option Nat} (hg : u.grownBy u' row) {b o : Nat} {v : Value} (h : u.cell? ⟨b, o, none⟩ = some v) (hne : row ≠ some b) : u'.cell? ⟨b, o, none⟩ = some v :=
  (World.cell?_of_block (w := u) (hg.block b (block_lt_of_cell h) (fun e => hne e.symm))).trans h
theorem by_frozen {u u' : World} {row : Option Nat} (hg : u.grownBy u' row) {b o : Nat} (hb : b < u.heap.size) (h : u.frozen? ⟨b, o, none⟩ = false) (hne : row ≠ some b) : u'.frozen? ⟨b, o, none⟩ = false :=
  (World.frozen?_of_block (w := u) (hg.block b hb (fun e => hne e.symm))).trans h
theorem cell_set8 {w : World} {x : Addr} {u v : Value} (h : w.cell? x = some u) : (w.setCell x v).cell? x = some v := by
  simp [go_sem, h]
theorem set_other8 (w : World) (g i j : Nat) (v : Value) (h : j ≠ i) : (w.setCell ⟨g, i, none⟩ v).cell? ⟨g, j, none⟩ = w.cell? ⟨g, j, none⟩ := by
  apply World.cell?_setCell_other
  intro e
  injection e with _ e2 _
  omega
/-- a list that is being marked -/
def Mrk (w : World) (g p j : Nat) (mk : I8) : Prop := (∀ i, i < j → w.cell? ⟨g, i, none⟩ = some (.int .i8 mk.1)) ∧ w.there g 0 p
theorem Mrk.set {w : World} {g p j : Nat} {mk : I8} (h : Mrk w g p j mk) (hj : j < p) : Mrk (w.setCell ⟨g, j, none⟩ (.int .i8 mk.1)) g p (j + 1) mk := by
  refine ⟨fun i hi => ?_, there_setCell h.2 _ _⟩
  by_cases e : i = j
  · subst e
    have := (h.2 i hj).1
    rw [Nat.zero_add] at this
    obtain ⟨v, hv⟩ := Option.isSome_iff_exists.1 this
    exact cell_set8 hv
  · rw [set_other8 _ _ _ _ _ e]; exact h.1 i (by omega)
theorem Mrk.sl {w : World} {g p c : Nat} {mk : I8} (h : Mrk w g p p mk) (hp : 0 < p) (hc : p ≤ c) : Sl8 w (.slice (some ⟨g, 0, none⟩) p c) (List.replicate p mk) :=
  ⟨some ⟨g, 0, none⟩, c, by simp, by simpa using hc, .inr ⟨g, 0, rfl, block_lt_of_cell (h.1 0 hp), fun i hi => by rw [Nat.zero_add, rep_get]; exact h.1 i (by simpa using hi)⟩⟩
theorem Mrk.by {u u' : World} {row : Option Nat} {g p j : Nat} {mk : I8} (h : Mrk u g p j mk) (hg : u.grownBy u' row) (hp : 0 < p) (hne : row ≠ some g) : Mrk u' g p j mk := by
  have hlt : g < u.heap.size := there_lt h.2 hp
  refine ⟨fun i hi => by_cell hg (h.1 i hi) hne, fun i hi => ?_⟩
  obtain ⟨h1, h2⟩ := h.2 i hi
  obtain ⟨v, hv⟩ := Option.isSome_iff_exists.1 h1
  exact ⟨by rw [by_cell hg hv hne]; rfl, by_frozen hg hlt h2 hne⟩
theorem Mrk.lain {u u' : World} {g p j : Nat} {mk : I8} (h : Mrk u g p j mk) (hg : Lain u u') (hp : 0 < p) : Mrk u' g p j mk := by
  have hlt : g < u.heap.size := there_lt h.2 hp
  exact ⟨fun i hi => (hg.cell _ hlt).trans (h.1 i hi), hg.there h.2⟩
section
variable {ops : Array Oper} {a : Act} {w : World} {Q : Exit → Act → World → Prop}
theorem opc_one {k : Int} {a b c u : Nat} {n : Int} {d : Value} (hd : d.oneCell' = true) : ∀ x ∈ opc k a b c u n d, x.oneCell' = true := by
  intro x hx
  simp only [opc, List.mem_cons, List.mem_append, List.not_mem_nil, or_false] at hx
  rcases hx with rfl | h | h | h | h | rfl | rfl
  · rfl
  · exact yl_one 32 a x h
  · exact yl_one 32 b x h
  · exact yl_one 32 c x h
  · exact yl_one 64 u x h
  · rfl
  · exact hd
theorem wpList_store_newOp {rest : List Oper} {o : Oper} {x y : Operand} {cs : Array Value} (k : Int) (xa xb xc xu : Nat) (n : Int) (d : Value) (hd : d.oneCell' = true) (hc : 163 ≤ cs.size) (hgd : o.guard = none) (ho : o.op = .store 51 x y)
    (hx : a.eval x = .pointer (some ⟨w.heap.size, 0, none⟩)) (hy : a.eval y = .agg (opc k xa xb xc xu n d).toArray)
    (h : ∀ w2, Grown w w2 → OZ w2 w.heap.size k xa xb xc xu n d → wpList Tryd.prog ops Q rest (a.put o.dst undef) w2) :
    wpList Tryd.prog ops Q (o :: rest) a (w.alloc (.cells cs 51)) := by
  have ht := there_alloc_new w 51 cs 163 hc
  refine wpList_store_mid hgd 51 x y ho w.heap.size 0 (opc k xa xb xc xu n d).toArray hx hy (by rw [show (opc k xa xb xc xu n d).toArray.size = 163 from by rw [List.size_toArray, opc_length]]; exact ht) (by rw [List.size_toArray, opc_length]; exact infoOp) (all_oneCell_toArray (opc_one hd)) ?_
  exact h _ (grown_setCells (Nat.le_refl _) _ _ (Grown.alloc (Grown.refl _) _ _)) (ox_of (World.rangeAt_setCells_same _ _ _ _ (by rw [opc_length]; exact ht)))
end
end Go.Proofs.YteijccjdejjbjaaDoor
namespace Go.Proofs.YteijccjdejjbjaaDoor
open Go.RowKit Go.Shelf ScalarNum

/-- one call of a script, as it lies, with its bound -/
structure OpB (w : World) (p off : Nat) : Prop where
  ex : ∃ (k : Int) (a b c u : Nat) (n : Int) (d : Value) (l : List I8), a < M ∧ b < M ∧ c < M ∧ u < M * M ∧ Sl8 w d l ∧ l.length ≤ 1048576 ∧ -9223372036854775808 ≤ n ∧ n ≤ 9223372036854775807 ∧ w.rangeAt p off (opc k a b c u n d)
theorem mark_i8 (i : Nat) : -128 ≤ ((i % 120 + 2 : Nat) : Int) ∧ ((i % 120 + 2 : Nat) : Int) ≤ 127 := by omega
set_option maxRecDepth 100000 in
set_option maxHeartbeats 2000000 in
theorem keeps_walk (a0 : Option Addr) (n0 c0 : Nat) (w : World) (hn0 : n0 ≤ 1048576) (hsc : 0 < n0 → ∃ b off, a0 = some ⟨b, off, none⟩ ∧ ∀ i, i < n0 → OpB w b (off + 163 * i)) (hG : GS w) :
    Calls Tryd.prog 13 #[.slice a0 n0 c0] w fun e w' => e = .returned (.bool true) ∧ Lain w w' := by
  have HG := Hid.of hG
  have HS := Hid.of hsc
  clear hG hsc
  go_enter Tryd.func13, Tryd.ntmps13
  go_wp2
  go_loopw [3, 4] (fun v3 v4 wr => ∃ i : Nat, v4 = .int .i64 (i : Int) ∧ i ≤ n0 ∧ Hid (∃ L, KJ w wr v3 L ∧ L.length = i)) (fun _ v4 _ => n0 - (intOf v4).toNat)
  case atStart => exact ⟨0, rfl, by omega, [], ⟨Lain.refl _, ownB_nil _ _, fun i h => by simp at h, fun i h => by simp at h, fun g hg => by simp [Value.ownBlock] at hg⟩, rfl⟩
  case round =>
    obtain ⟨i, rfl, hi, hI⟩ := hrel
    obtain ⟨wb, hwb⟩ : ∃ wb, wb = wr := ⟨_, rfl⟩
    subst hwb
    by_cases hlt : i < n0
    · have hlt' : (i : Int) < (n0 : Int) := by omega
      obtain ⟨b, off, rfl, hop⟩ := HS.out (by omega)
      obtain ⟨k, a, xb, c, u, n, d, l, ha, hb, hc, hu, hSl, hll, hn1, hn2, hr⟩ := (hop i hlt).ex
      obtain ⟨L, hK, hLi⟩ := hI.out
      have HK := Hid.of hK
      have HR := Hid.of (hK.la.range hr)
      have HD := Hid.of hSl
      have hd1 : d.oneCell' = true := by obtain ⟨_, _, rfl, _⟩ := hSl; rfl
      clear hr hSl hop hI hK
      go_wp2_with (with_reducible show wpList _ _ _ ({ dst := _, op := Op.indexAddr _ _ _, type := _, pos := _, after := _, guard := _ } :: _) _ _; refine Shut.out ?_)
      show wpList _ _ _ _ _ _
      refine wpList_val (.pointer (some ⟨b, off + 163 * i, none⟩)) rfl (exec_idxOp i hlt rfl rfl rfl) ?_
      simp only [Act.put, List.setIfInBounds_toArray, List.set_cons_zero, List.set_cons_succ]
      refine wpList_loadOp rfl _ rfl b (off + 163 * i) rfl k a xb c u n d HR.out ?_
      simp only [Act.put, List.setIfInBounds_toArray, List.set_cons_zero, List.set_cons_succ]
      clear HR
      go_wp2_with (with_reducible show wpList _ _ _ ({ dst := _, op := Op.store 51 _ _, type := _, pos := _, after := _, guard := _ } :: _) _ _; refine Shut.out ?_)
      show wpList _ _ _ _ _ _
      refine wpList_store_newOp k a xb c u n d hd1 (by simp) rfl rfl rfl rfl (fun w1 hg1 hz1 => ?_)
      simp only [Act.put]
      have h5 : w.heap.size ≤ wb.heap.size := HK.out.la.2.2.1
      have hz5 : wb.heap.size < w1.heap.size := block_lt_of_cell hz1.rk
      have H1 := Hid.of (And.intro hz1 (Lain.of hg1))
      clear hz1 hg1
      obtain ⟨b5, hb5⟩ : ∃ b5, b5 = wb.heap.size := ⟨_, rfl⟩
      rw [← hb5] at H1 hz5 h5 ⊢
      have HB5 := Hid.of hb5
      clear hb5
      apply wpList_nil
      go_wp2_with (with_reducible show wpList _ _ _ ({ dst := _, op := Op.load 23 _, type := _, pos := _, after := _, guard := _ } :: _) _ _; refine Shut.out ?_)
      show wpList _ _ _ _ _ _
      refine wpList_load32o rfl _ rfl b5 1 rfl a H1.out.1.ra ?_
      simp only [Act.put, List.setIfInBounds_toArray, List.set_cons_zero, List.set_cons_succ]
      have hn0' := H1.out.1.rn
      go_wp2_with fail
      refine Calls.mono (refDigits_any a n ha w1) ?_
      rintro e w2 ⟨⟨vr, rfl, hr2⟩, g2⟩
      dsimp only
      have H2 := Hid.of (And.intro (H1.out.1.lain (Lain.of g2)) (And.intro hr2 (H1.out.2.trans (Lain.of g2))))
      clear H1 g2 hr2 hn0'
      go_wp2_with (with_reducible show wpList _ _ _ ({ dst := _, op := Op.load 23 _, type := _, pos := _, after := _, guard := _ } :: _) _ _; refine Shut.out ?_)
      show wpList _ _ _ _ _ _
      refine wpList_load32o rfl _ rfl b5 1 rfl a H2.out.1.ra ?_
      simp only [Act.put, List.setIfInBounds_toArray, List.set_cons_zero, List.set_cons_succ]
      have hn0' := H2.out.1.rn
      go_wp2_with fail
      refine Calls.mono (Digits_any a n ha w2) ?_
      rintro e w3 ⟨⟨vd, rfl, hN3, hS3⟩, g3⟩
      dsimp only
      have hb2 : b5 < w2.heap.size := block_lt_of_cell H2.out.1.rk
      have hz3 : w2.heap.size ≤ w3.heap.size := g3.2.2
      have H3 := Hid.of (And.intro (H2.out.1.lain (Lain.of g3)) (And.intro (H2.out.2.1.lain (Lain.of g3)) (And.intro hN3 (And.intro hS3 (H2.out.2.2.trans (Lain.of g3))))))
      clear H2 g3 hN3 hS3 hn0'
      have hx1 : (dgE n == dgE n) = true := by simp
      have hdl := dgl_len a n
      generalize dgE n = E at *
      generalize dgl a n = dl0 at *
      go_wp2_with fail
      refine Calls.mono (same_any vd vr dl0 w3 H3.out.2.2.2.1 H3.out.2.1 hdl) ?_
      rintro e w4 ⟨rfl, g4⟩
      dsimp only
      have hz4 : w3.heap.size ≤ w4.heap.size := g4.2.2.1
      have hN4 : NewD w2.heap.size w4 vd dl0.length := by
        rcases H3.out.2.2.1 with h | ⟨g, h1, h2, h3, h4⟩
        · exact .inl h
        · exact .inr ⟨g, h1, h2, g4.there h3, h4⟩
      have H4 := Hid.of (And.intro (H3.out.1.lain g4) (And.intro hN4 (H3.out.2.2.2.2.trans g4)))
      obtain ⟨sa, sc, hvd, hpc, _⟩ := H3.out.2.2.2.1
      clear H3 g4 hN4
      obtain ⟨p, hp⟩ : ∃ p, dl0.length = p := ⟨_, rfl⟩
      rw [hp] at H4 hvd hdl hpc
      subst hvd
      clear hp
      obtain ⟨m, hm⟩ : ∃ m, i % 120 + 2 = m := ⟨_, rfl⟩
      have hm2 : 2 ≤ m ∧ m ≤ 121 := by omega
      have htm : (i : Int) % 120 + 2 = (m : Int) := by omega
      have hmk : -128 ≤ (m : Int) ∧ (m : Int) ≤ 127 := by omega
      clear hm
      go_wp2
      have hbox := cells_new w4 55 [.slice sa p sc, .slice none 0 0, .int .i8 (m : Int)]
      have x0 := hbox 0 _ rfl
      have x1 := hbox 1 _ rfl
      have x2 := hbox 2 _ rfl
      rw [add_plain, Nat.zero_add] at x0 x1 x2
      have hth := there_alloc_new w4 55 [.slice sa p sc, .slice none 0 0, .int .i8 (m : Int)].toArray 3 (by simp)
      have f1 := (hth 1 (by decide)).2
      have gA := (Lain.refl w4).alloc (.cells [.slice sa p sc, .slice none 0 0, .int .i8 (m : Int)].toArray 55)
      have hsA : (w4.alloc (.cells [.slice sa p sc, .slice none 0 0, .int .i8 (m : Int)].toArray 55)).heap.size = w4.heap.size + 1 := by simp
      have hN5 : NewD w2.heap.size (w4.alloc (.cells [.slice sa p sc, .slice none 0 0, .int .i8 (m : Int)].toArray 55)) (.slice sa p sc) p := by
        rcases H4.out.2.1 with h | ⟨g, h1, h2, h3, h4⟩
        · exact .inl h
        · exact .inr ⟨g, h1, h2, gA.there h3, h4⟩
      have hNg : ∀ g, sa = some ⟨g, 0, none⟩ → 0 < p → g < w4.heap.size := by
        intro g e hp0
        rcases H4.out.2.1 with ⟨h, _⟩ | ⟨g', h1, h2, h3, h4⟩
        · injection h with h _ _; rw [e] at h; cases h
        · injection h1 with h1 _ _
          rw [e] at h1
          injection h1 with h1
          injection h1 with h1 _
          subst h1
          exact there_lt h3 h4
      have H5 := Hid.of (And.intro (H4.out.1.lain gA) (And.intro hN5 (H4.out.2.2.trans gA)))
      have HNg := Hid.of hNg
      clear H4 gA hN5 hbox hth hNg
      generalize (w4.alloc (.cells [.slice sa p sc, .slice none 0 0, .int .i8 (m : Int)].toArray 55)) = W5 at *
      generalize w4.heap.size = b10 at *
      have h510 : b5 < b10 := by omega
      go_loopw [11] (fun v11 wr2 => ∃ j : Nat, v11 = .int .i64 (j : Int) ∧ j ≤ p ∧ Hid (W5.grownBy wr2 (Value.slice sa p sc).ownBlock ∧ ∀ g, sa = some ⟨g, 0, none⟩ → 0 < p → Mrk wr2 g p j ⟨(m : Int), hmk⟩)) (fun v11 _ => p - (intOf v11).toNat)
      case atStart =>
        refine ⟨0, rfl, by omega, grownBy_refl _ _, fun g e hp0 => ⟨fun i hi => absurd hi (Nat.not_lt_zero _), ?_⟩⟩
        rcases H5.out.2.1 with ⟨h, _⟩ | ⟨g', h1, h2, h3, h4⟩
        · injection h with h _ _; rw [e] at h; cases h
        · injection h1 with h1 _ _
          rw [e] at h1
          injection h1 with h1
          injection h1 with h1 _
          subst h1
          exact h3
      case round =>
        obtain ⟨j, rfl, hj, hJ⟩ := hrel
        obtain ⟨w6, hw6⟩ : ∃ w6, w6 = wr := ⟨_, rfl⟩
        subst hw6
        by_cases hjp : j < p
        · have hjp' : (j : Int) < (p : Int) := by omega
          obtain ⟨g, hsa, hg2⟩ : ∃ g, sa = some ⟨g, 0, none⟩ ∧ w2.heap.size ≤ g := by
            rcases H5.out.2.1 with ⟨_, h⟩ | ⟨g', h1, h2, _, _⟩
            · omega
            · injection h1 with h1 _ _
              exact ⟨g', h1, h2⟩
          subst hsa
          have hgb := HNg.out g rfl (by omega)
          have hMk := hJ.out.2 g rfl (by omega)
          obtain ⟨c1, c2'⟩ := hMk.2 j hjp
          obtain ⟨uv, huv⟩ := Option.isSome_iff_exists.1 c1
          rw [Nat.zero_add] at huv c2'
          have y2 := by_cell hJ.out.1 x2 (by intro e; injection e with e; have e : g = b10 := e; omega)
          have HMk := Hid.of (And.intro (grownBy_set hJ.out.1 j (.int .i8 (m : Int))) (hMk.set hjp))
          clear hMk c1 hJ
          go_wp2
          go_roundw
          case rel => exact ⟨j + 1, by go_num, by omega, HMk.out.1, fun g' e _ => by cases e; exact HMk.out.2⟩
          case measure => simp [intOf]; omega
        · obtain rfl : j = p := by omega
          have hBk : ∀ g, (Value.slice sa j sc).ownBlock = some g → 0 < j ∧ sa = some ⟨g, 0, none⟩ ∧ w2.heap.size ≤ g ∧ g < b10 := by
            intro g e
            rcases H5.out.2.1 with ⟨h, _⟩ | ⟨g', h1, h2, _, h4⟩
            · rw [h] at e; cases e
            · injection h1 with h1 _ _
              subst h1
              injection e with e
              have e : g' = g := e
              subst e
              exact ⟨h4, rfl, h2, HNg.out g' rfl h4⟩
          have hN6 : NewD w2.heap.size w6 (.slice sa j sc) (List.replicate j (⟨(m : Int), hmk⟩ : I8)).length := by
            rw [List.length_replicate]
            rcases H5.out.2.1 with h | ⟨g', h1, h2, _, h4⟩
            · exact .inl h
            · refine .inr ⟨g', h1, h2, ?_, h4⟩
              injection h1 with h1 _ _
              exact (hJ.out.2 g' h1 h4).2
          have hS6 : Sl8 w6 (.slice sa j sc) (List.replicate j (⟨(m : Int), hmk⟩ : I8)) := by
            rcases H5.out.2.1 with ⟨h, h0⟩ | ⟨g', h1, h2, _, h4⟩
            · rw [h]
              subst h0
              exact ⟨none, 0, rfl, Nat.le_refl _, .inl rfl⟩
            · injection h1 with h1 _ h3
              subst h1 h3
              exact (hJ.out.2 g' rfl h4).sl h4 (Nat.le_refl _)
          have hrow : ∀ q, b10 ≤ q ∨ q < w2.heap.size → (Value.slice sa j sc).ownBlock ≠ some q := by
            intro q hq e
            have := hBk q e
            omega
          have hr10 := hrow b10 (.inl (Nat.le_refl _))
          have hr5 := hrow b5 (.inr hb2)
          have x0' := by_cell hJ.out.1 x0 hr10
          have x1' := by_cell hJ.out.1 x1 hr10
          have x2' := by_cell hJ.out.1 x2 hr10
          have f1' := by_frozen hJ.out.1 (block_lt_of_cell x1) f1 hr10
          have hs6 : W5.heap.size ≤ w6.heap.size := hJ.out.1.size
          have H6 := Hid.of (And.intro (H5.out.1.by hJ.out.1 hr5) (And.intro hN6 (And.intro hS6 (H5.out.2.2.by hJ.out.1 (fun g e => by have := hBk g e; have := HB5.out; omega)))))
          have HBk := Hid.of hBk
          clear hN6 hS6 hJ x0 x1 x2 f1 H5 hrow hBk hr10 hr5
          go_wp2_with (with_reducible show wpList _ _ _ ({ dst := _, op := Op.call { callee := Callee.builtin Builtin.append, args := _, argTypes := _ }, type := _, pos := _, after := _, guard := _ } :: _) _ _; refine Shut.out ?_)
          show wpList _ _ _ _ _ _
          refine wpList_append_full8 (v := .slice sa j sc) (l := List.replicate j (⟨(m : Int), hmk⟩ : I8)) rfl _ _ rfl ⟨(m : Int), hmk⟩ rfl H6.out.2.1 H6.out.2.2.1 (by simpa using hdl) 1 rfl ?_
          intro Mb cap w7 hM hcap g7 t7
          rw [List.length_replicate] at hcap t7 ⊢
          have y0 := (grown_cell g7 _ _ (block_lt_of_cell x0')).trans x0'
          have y1 := (grown_cell g7 _ _ (block_lt_of_cell x1')).trans x1'
          have y2 := (grown_cell g7 _ _ (block_lt_of_cell x2')).trans x2'
          have fy1 := (g7.2.1 _).trans f1'
          have H7 := Hid.of (And.intro (H6.out.1.lain (Lain.of g7)) (And.intro t7 (And.intro (H6.out.2.2.1.lain (Lain.of g7)) (H6.out.2.2.2.trans (Lain.of g7)))))
          have hM2 : b10 < Mb := by omega
          have hM3 : Mb < w7.heap.size := there_lt t7 (by omega)
          clear H6 x0' x1' x2' f1' g7 t7
          simp only [Act.put, List.setIfInBounds_toArray, List.set_cons_zero, List.set_cons_succ]
          have gS := grownBy_set (grownBy_refl w7 (some b10)) 1 (.slice (some ⟨Mb, 0, none⟩) (j + 1) cap)
          have z0 := (set_other8 w7 b10 1 0 (.slice (some ⟨Mb, 0, none⟩) (j + 1) cap) (by decide)).trans y0
          have z1 := cell_set8 (v := .slice (some ⟨Mb, 0, none⟩) (j + 1) cap) y1
          have z2 := (set_other8 w7 b10 1 2 (.slice (some ⟨Mb, 0, none⟩) (j + 1) cap) (by decide)).trans y2
          have H8 := Hid.of (And.intro (H7.out.1.by gS (by intro e; injection e with e; omega)) (And.intro (there_setCell H7.out.2.1 ⟨b10, 1, none⟩ (.slice (some ⟨Mb, 0, none⟩) (j + 1) cap)) (And.intro (H7.out.2.2.1.by gS (fun g e => by
            injection e with e
            intro e2
            have := HBk.out g e2
            omega)) (H7.out.2.2.2.by gS (fun g e => by injection e with e; have := HB5.out; omega)))))
          have hs8 : w7.heap.size ≤ (w7.setCell ⟨b10, 1, none⟩ (.slice (some ⟨Mb, 0, none⟩) (j + 1) cap)).heap.size := gS.size
          clear H7 gS
          go_wp2
          generalize (w7.setCell ⟨b10, 1, none⟩ (.slice (some ⟨Mb, 0, none⟩) (j + 1) cap)) = W8 at *
          go_loopw [12] (fun v12 wr3 => ∃ q : Nat, v12 = .int .i64 (q : Int) ∧ q ≤ j + 1 ∧ Hid (W8.grownBy wr3 (some Mb) ∧ Mrk wr3 Mb (j + 1) q ⟨(m : Int), hmk⟩)) (fun v12 _ => j + 1 - (intOf v12).toNat)
          case atStart => exact ⟨0, rfl, by omega, grownBy_refl _ _, fun i hi => absurd hi (Nat.not_lt_zero _), H8.out.2.1⟩
          case round =>
            obtain ⟨q, rfl, hq, hQ⟩ := hrel
            obtain ⟨w9, hw9⟩ : ∃ w9, w9 = wr := ⟨_, rfl⟩
            subst hw9
            have hMne : some Mb ≠ some b10 := by intro e; injection e with e; omega
            have r0 := by_cell hQ.out.1 z0 hMne
            have r1 := by_cell hQ.out.1 z1 hMne
            have r2 := by_cell hQ.out.1 z2 hMne
            by_cases hqp : q < j + 1
            · have hqp' : (q : Int) < (j : Int) + 1 := by omega
              obtain ⟨c1, c2'⟩ := hQ.out.2.2 q hqp
              obtain ⟨uv, huv⟩ := Option.isSome_iff_exists.1 c1
              rw [Nat.zero_add] at huv c2'
              have HMk := Hid.of (And.intro (grownBy_set hQ.out.1 q (.int .i8 (m : Int))) (hQ.out.2.set hqp))
              clear c1 hQ
              go_wp2
              go_roundw
              case rel => exact ⟨q + 1, by go_num, by omega, HMk.out.1, HMk.out.2⟩
              case measure => simp [intOf]; omega
            · obtain rfl : q = j + 1 := by omega
              have hM5 : some Mb ≠ some b5 := by intro e; injection e with e; omega
              have hw5 : wb.heap.size = b5 := HB5.out.symm
              have hL9 : Lain wb w9 := H8.out.2.2.2.by hQ.out.1 (fun g e => by injection e with e; omega)
              have hE9 : Ent w9 (.slice sa j sc) (.slice (some ⟨Mb, 0, none⟩) (j + 1) cap) ⟨(m : Int), hmk⟩ := ⟨j, hdl, H8.out.2.2.1.by hQ.out.1 (fun g e => by
                injection e with e
                intro e2
                have := HBk.out g e2
                omega), hQ.out.2.sl (by omega) hcap⟩
              have hs9 : W8.heap.size ≤ w9.heap.size := hQ.out.1.size
              have hK9 := HK.out.lain hL9
              have hblk : (∀ b, (Value.slice sa j sc).ownBlock = some b → b < w9.heap.size) ∧ (∀ b, (Value.slice (some ⟨Mb, 0, none⟩) (j + 1) cap).ownBlock = some b → b < w9.heap.size) := by
                refine ⟨fun b e => ?_, fun b e => ?_⟩
                · have := HBk.out b e
                  omega
                · injection e with e
                  have e : Mb = b := e
                  omega
              have hoff : ∀ g, u3.ownBlock = some g → (Value.slice sa j sc).ownBlock ≠ some g ∧ (Value.slice (some ⟨Mb, 0, none⟩) (j + 1) cap).ownBlock ≠ some g := by
                intro g e
                have hg := (HK.out.own.lt e).2
                refine ⟨fun e2 => ?_, fun e2 => ?_⟩
                · have := HBk.out g e2
                  omega
                · injection e2 with e2
                  have e2 : Mb = g := e2
                  omega
              have h5off : u3.ownBlock ≠ some b5 := by
                intro e
                have := (HK.out.own.lt e).2
                omega
              have H9 := Hid.of (And.intro (H8.out.1.by hQ.out.1 hM5) (And.intro hE9 (And.intro hK9 (And.intro hblk (And.intro hoff h5off)))))
              clear hE9 hK9 hblk hoff h5off hQ H8 hL9
              go_wp2_with (with_reducible show wpList _ _ _ ({ dst := _, op := Op.call { callee := Callee.builtin Builtin.append, args := _, argTypes := _ }, type := _, pos := _, after := _, guard := _ } :: _) _ _; refine Shut.out ?_)
              show wpList _ _ _ _ _ _
              refine wpList_append_hd8 (v := u3) (l := L) rfl _ _ rfl (.slice sa j sc, .slice (some ⟨Mb, 0, none⟩) (j + 1) cap, ⟨(m : Int), hmk⟩) rfl H9.out.2.2.1.own (by
                intro x hx
                simp only [hcl, List.mem_cons, List.not_mem_nil, or_false] at hx
                rcases hx with rfl | rfl | rfl <;> rfl) (by omega) H9.out.2.2.1.la.2.2.1 1 rfl ?_
              intro v3' w10 w1' hl1 ho10 gB hn3
              have H10 := Hid.of (And.intro ((H9.out.1.lain hl1).by gB H9.out.2.2.2.2.2) (KJ.append H9.out.2.2.1 H9.out.2.1 H9.out.2.2.2.1 H9.out.2.2.2.2.1 hl1 ho10 gB hn3))
              clear H9 hl1 ho10 gB hn3
              simp only [Act.put, List.setIfInBounds_toArray, List.set_cons_zero, List.set_cons_succ]
              have hd10 := H10.out.1.rd
              go_wp2_with fail
              refine Calls.mono (given_walk d l w10 (HD.out.lain H10.out.2.la) hll (HG.out.lain H10.out.2.la)) ?_
              rintro e w11 ⟨rfl, g11⟩
              dsimp only
              have H11 := Hid.of (H10.out.2.lain g11)
              clear H10 g11 hd10
              go_wp2_with fail
              refine Calls.mono (marked_walk v3' _ w11 H11.out.own.read H11.out.ent (by simp; omega)) ?_
              rintro e w12 ⟨rfl, g12⟩
              dsimp only
              have H12 := Hid.of (H11.out.lain g12)
              clear H11 g12
              go_wp2
              go_roundw
              case rel => exact ⟨i + 1, by go_num, by omega, _, H12.out, by simp [hLi]⟩
              case measure => simp [intOf]; omega
    · obtain rfl : i = n0 := by omega
      obtain ⟨L, hK, hLi⟩ := hI.out
      have HK := Hid.of hK
      clear hI hK
      go_wp2_with fail
      refine Calls.mono (number_nat 1 (by decide) 1 rfl wb) ?_
      rintro e w1 ⟨rfl, hg1⟩
      dsimp only
      have H1 := Hid.of (HK.out.lain (Lain.of hg1))
      clear hg1 HK
      go_wp2_with fail
      refine Calls.mono (Digits_new 1 2 (by decide) (by decide) (by decide) w1) ?_
      rintro e w2 ⟨⟨g, rfl, _, hr2, _⟩, g2⟩
      dsimp only
      have hc0 : w2.cell? ⟨g, 0, none⟩ = some (.int .i8 1) := by
        have := hr2 0 _ (dl_get 2 1 257 0 (by decide))
        rw [if_pos (by decide), show dn 2 1 0 = 1 by decide +kernel] at this
        exact this
      have H2 := Hid.of (And.intro hc0 (H1.out.lain (Lain.of g2)))
      clear H1 g2 hr2 hc0
      go_wp2_with fail
      refine Calls.mono (marked_walk _ L w2 H2.out.2.own.read H2.out.2.ent (by omega)) ?_
      rintro e w3 ⟨rfl, g3⟩
      dsimp only
      have hc3 := (g3.cell _ (block_lt_of_cell H2.out.1)).trans H2.out.1
      have H3 := Hid.of (H2.out.2.la.trans g3)
      clear H2 g3
      go_wp2
      go_ret
      exact ⟨rfl, H3.out⟩
end Go.Proofs.YteijccjdejjbjaaDoor
namespace Go.Proofs.YteijccjdejjbjaaDoor
open Go.ChangeShapes Go.WideShapes Go.ChangeAt Go.RowKit Go.Shelf ScalarNum

theorem Tryd.own : ownKnob Tryd.prog.godebug = none := by kernel_rfl

theorem exists_digits0 (f : Nat → Nat) (hf : ∀ i, f i < 256) : ∀ k : Nat, ∃ a : Nat, a < 256 ^ k ∧ ∀ i, i < k → a / 256 ^ i % 256 = f i
  | 0 => ⟨0, by simp, fun i hi => by omega⟩
  | k + 1 => by
    obtain ⟨a, ha, h⟩ := exists_digits0 f hf k
    refine ⟨a + f k * 256 ^ k, ?_, fun i hi => ?_⟩
    · rw [Nat.pow_succ]
      have := hf k
      have h2 : (f k + 1) * 256 ^ k ≤ 256 * 256 ^ k := Nat.mul_le_mul_right _ (by omega)
      rw [Nat.add_mul] at h2
      omega
    · by_cases hik : i = k
      · subst hik
        rw [Nat.add_mul_div_right _ _ (Nat.pow_pos (by decide)), Nat.div_eq_of_lt ha, Nat.zero_add, Nat.mod_eq_of_lt (hf i)]
      · have hlt : i < k := by omega
        rw [← h i hlt]
        obtain ⟨d, rfl⟩ : ∃ d, k = i + 1 + d := ⟨k - (i + 1), by omega⟩
        have e : f (i + 1 + d) * 256 ^ (i + 1 + d) = (f (i + 1 + d) * 256 ^ d * 256) * 256 ^ i := by
          rw [Nat.pow_add, Nat.pow_succ]
          simp only [Nat.mul_assoc, Nat.mul_left_comm, Nat.mul_comm]
        rw [e, Nat.add_mul_div_right _ _ (Nat.pow_pos (by decide)), Nat.add_mul_mod_self_right]

theorem exists_digits (f : Nat → Nat) (hf : ∀ i, f i < 256) (k : Nat) : ∃ a : Nat, a < 256 ^ k ∧ ∀ i, i < k → dg 256 a i = f i := exists_digits0 f hf k

/-- what is read of 32 bytes -/
def da (H : Type) (a : Nat) : DataW H := .agg ((List.range 32).map fun i => .lit (.int .u8 ((dg 256 a i : Nat) : Int)))

theorem mapM_all {α β : Type} (f : α → Option β) (g : α → β) : ∀ l : List α, (∀ x ∈ l, f x = some (g x)) → l.mapM f = some (l.map g)
  | [], _ => rfl
  | x :: t, h => by
    rw [List.mapM_cons, h x (by simp), mapM_all f g t (fun y hy => h y (by simp [hy]))]
    rfl

theorem wf_byte (n : Nat) : (Lit.int .u8 ((n % 256 : Nat) : Int)).wf = true := by
  simp [Lit.wf, IntKind.min, IntKind.max, IntKind.signed, IntKind.bits]; omega

theorem wf_dg (a i : Nat) : (Lit.int .u8 ((dg 256 a i : Nat) : Int)).wf = true := wf_byte _

theorem cells32 : Tryd.prog.cellsOf 23 = 32 := by kernel_rfl

theorem trod32 {H : Type} (enc : TypeId × Value → H) (W : World) (base : Nat) (sp : Nat → Bool) (held : Bool) (k a : Nat) :
    DataW.trod enc Tryd.prog W base sp held (k + 2) 23 (yl 32 a) = some (da H a, []) := by
  have h1 : ∀ i ∈ List.range 32, DataW.trod enc Tryd.prog W base sp held (k + 1) 5 (((yl 32 a).drop (i * 1)).take 1) = some (.lit (.int .u8 ((dg 256 a i : Nat) : Int)), []) := by
    intro i hi
    have hi' : i < 32 := by simpa using hi
    have e : ((yl 32 a).drop (i * 1)).take 1 = [.int .u8 ((dg 256 a i : Nat) : Int)] := by
      have hl := yl_length 32 a
      have hg := yl_get 32 a i hi'
      rw [Nat.mul_one]
      rw [List.getElem?_eq_getElem (by omega)] at hg
      rw [List.drop_eq_getElem_cons (by omega), List.take_succ_cons, List.take_zero]
      injection hg with hg
      rw [hg]
    rw [e]
    unfold DataW.trod
    rw [Tryd.underlying5]
    simp only [wf_dg, and_self, ↓reduceIte]
  unfold DataW.trod
  rw [Tryd.underlying23]
  simp only [yl_length, cells32, ↓reduceIte, cells8]
  rw [mapM_all _ _ _ h1]
  simp [da, Function.comp_def]

theorem open32 {H : Type} {enc : TypeId × Value → H} {W : World} {base : Nat} {v : Value} {d : DataW H} {q : List MemPlace}
    (hval : Value.okWide Tryd.prog W .any base 23 v) (h : DataW.Trod enc Tryd.prog W 0 (fun _ => true) true 23 v d q) :
    ∃ a : Nat, a < M ∧ v = yv 32 a ∧ d = da H a ∧ q = [] := by
  obtain ⟨cs, rfl, hsz, _⟩ : ∃ cs, v = .agg cs ∧ cs.size = Tryd.prog.cellsOf 23 ∧ Row.okWide Tryd.prog W .any base 23 cs := by
    simpa [Value.okWide, Tryd.underlying23] using hval
  rw [cells32] at hsz
  obtain ⟨l⟩ := cs
  obtain ⟨fuel, hf⟩ := h
  have hf' : DataW.trod enc Tryd.prog W 0 (fun _ => true) true fuel 23 l = some (d, q) := hf
  obtain ⟨xs, m, rfl, hx, hlen, hxl, hel⟩ := DataW.trod_array Tryd.underlying23 hf'
  rw [cells8] at hel
  have hl : l.length = 32 := by simpa using hsz
  have hcell : ∀ i, i < 32 → ∃ n : Nat, n < 256 ∧ l[i]? = some (.int .u8 (n : Int)) := by
    intro i hi
    have h1 := hel i hi
    rw [Nat.mul_one, List.drop_eq_getElem_cons (by omega), List.take_succ_cons, List.take_zero, List.getElem?_eq_getElem (by omega)] at h1
    obtain ⟨z, e0, _, w0⟩ := DataW.trod_int Tryd.underlying5 h1
    simp at e0
    have hb : 0 ≤ z ∧ z ≤ 255 := by
      simpa [Lit.wf, IntKind.min, IntKind.max, IntKind.signed, IntKind.bits] using w0
    refine ⟨z.toNat, by omega, ?_⟩
    rw [List.getElem?_eq_getElem (by omega), e0]
    congr 2
    omega
  obtain ⟨a, ha, hd⟩ := exists_digits (fun i => if hi : i < 32 then (hcell i hi).choose else 0) (fun i => by
    by_cases hi : i < 32
    · simp only [hi, ↓reduceDIte]; exact (hcell i hi).choose_spec.1
    · simp [hi]) 32
  have e32 : 256 ^ 32 = M := by decide
  rw [e32] at ha
  have el : l = yl 32 a := by
    apply List.ext_getElem?
    intro i
    by_cases hi : i < 32
    · rw [yl_get 32 a i hi, hd i hi]
      simp only [hi, ↓reduceDIte]
      exact (hcell i hi).choose_spec.2
    · rw [List.getElem?_eq_none (by omega), List.getElem?_eq_none (by rw [yl_length]; omega)]
  subst el
  have hm : m ≠ 0 := by
    rintro rfl
    have h1 := hel 0 (by decide)
    rw [List.getElem?_eq_getElem (by omega)] at h1
    simp [DataW.trod] at h1
  obtain ⟨m', rfl⟩ := Nat.exists_eq_succ_of_ne_zero hm
  have := trod32 enc W 0 (fun _ => true) true m' a
  rw [hf'] at this
  injection this with this
  injection this with e1 e2
  exact ⟨a, ha, rfl, e1, e2⟩

theorem shut32 {H : Type} (enc : TypeId × Value → H) (W : World) (sp : Nat → Bool) (a : Nat) : DataW.Trod enc Tryd.prog W 0 sp true 23 (yv 32 a) (da H a) [] := ⟨2, trod32 enc W 0 sp true 0 a⟩
end Go.Proofs.YteijccjdejjbjaaDoor
