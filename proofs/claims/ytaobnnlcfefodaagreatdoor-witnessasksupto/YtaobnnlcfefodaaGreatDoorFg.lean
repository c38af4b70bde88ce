import Derived.Test.YtaobnnlcfefodaaGreatDoorFb
import Derived.Laws.OwnMore
namespace Go.Proofs.YtaobnnlcfefodaaGreatDoor
open Go.RowKit TextNum
theorem Sl.by7 {w w' : World} {v : Value} {l : List UInt8} {row : Option Nat} (h : Sl w v l) (hg : w.grownBy w' row) (hr : ∀ r, row = some r → v.ownBlock ≠ some r) : Sl w' v l := by
  obtain ⟨a, c, rfl, hc, h⟩ := h
  refine ⟨a, c, rfl, hc, ?_⟩
  rcases h with h | ⟨b, off, rfl, hb, h⟩
  · exact .inl h
  · have e := hg.block b hb (fun e => hr b e.symm rfl)
    exact .inr ⟨b, off, rfl, Nat.lt_of_lt_of_le hb hg.size, fun i hi => by rw [World.cell?_of_block e]; exact h i hi⟩
/-- a signature and where its bytes stand -/
def qc (q : Sg × Option Addr × Nat) : List Value := [.string q.1.name, .int .u32 (q.1.hash : Int), .slice q.2.1 q.1.bytes.length q.2.2]
def qv (q : Sg × Option Addr × Nat) : Value := .slice q.2.1 q.1.bytes.length q.2.2
/-- a list of signatures of one's own -/
def OwnG (w : World) (B : Nat) (e : TypeId) (v : Value) (qs : List (Sg × Option Addr × Nat)) : Prop :=
  w.ownsRow B e 3 v qs.length (qs.flatMap qc) ∧ ∀ q, q ∈ qs → Sl w (qv q) q.1.bytes ∧ ∀ b, (qv q).ownBlock = some b → b < w.heap.size ∧ v.ownBlock ≠ some b
theorem qc_len (qs : List (Sg × Option Addr × Nat)) : (qs.flatMap qc).length = qs.length * 3 := by
  induction qs with
  | nil => rfl
  | cons q r ih => rw [List.flatMap_cons, List.length_append, ih]; simp only [qc, List.length_cons, List.length_nil]; omega
theorem qc_one (q : Sg × Option Addr × Nat) : ∀ u, u ∈ qc q → u.oneCell' = true := by
  intro v hv
  simp only [qc, List.mem_cons, List.not_mem_nil, or_false] at hv
  rcases hv with rfl | rfl | rfl <;> rfl
theorem qc_get : ∀ (qs : List (Sg × Option Addr × Nat)) (i : Nat) (h : i < qs.length) (j : Nat) (_ : j < 3), (qs.flatMap qc)[i * 3 + j]? = (qc qs[i])[j]?
  | q :: r, 0, _, j, hj => by
    rw [List.flatMap_cons, List.getElem?_append_left (by simp only [qc, List.length_cons, List.length_nil]; omega)]
    simp
  | q :: r, i + 1, h, j, hj => by
    rw [List.flatMap_cons, List.getElem?_append_right (by simp only [qc, List.length_cons, List.length_nil]; omega)]
    have e : (i + 1) * 3 + j - (qc q).length = i * 3 + j := by simp only [qc, List.length_cons, List.length_nil]; omega
    rw [e, qc_get r i (by simpa using h) j hj]
    simp
theorem OwnG.up {w w' : World} {B : Nat} {e : TypeId} {v : Value} {qs : List (Sg × Option Addr × Nat)} (h : OwnG w B e v qs) (u : Up w w') : OwnG w' B e v qs := by
  refine ⟨⟨h.1.1, ?_⟩, fun q hq => ⟨(h.2 q hq).1.up u, fun b hb => ⟨Nat.lt_of_lt_of_le ((h.2 q hq).2 b hb).1 u.size, ((h.2 q hq).2 b hb).2⟩⟩⟩
  rcases h.1.2 with h | ⟨g, cap, cur, e, hb, hg, r⟩
  · exact .inl h
  · refine .inr ⟨g, cap, cur, e, hb, ?_, r⟩
    rw [u.block g (Array.getElem?_eq_some_iff.1 hg).1]; exact hg
theorem OwnG.sigL {w : World} {B : Nat} {e : TypeId} {v : Value} {qs : List (Sg × Option Addr × Nat)} (h : OwnG w B e v qs) : SigL w v (qs.map (·.1)) := by
  have h0 := h.1
  rcases h.1.2 with ⟨rfl, hn⟩ | ⟨g, cap, cur, rfl, hb, hg, hnc, _⟩
  · obtain rfl : qs = [] := List.length_eq_zero_iff.1 hn
    exact ⟨none, 0, rfl, Nat.le_refl _, .inl rfl⟩
  · refine ⟨_, cap, by rw [List.length_map], by rw [List.length_map]; exact hnc, .inr ⟨g, 0, rfl, (Array.getElem?_eq_some_iff.1 hg).1, fun i hi => ?_⟩⟩
    have hi' : i < qs.length := by rwa [List.length_map] at hi
    have hc : ∀ j, j < 3 → ∀ u, (qc qs[i])[j]? = some u → w.cell? ⟨g, 0 + i * 3 + j, none⟩ = some u := fun j hj u hu => by
      have := World.ownsRow.cells h0 (g := g) rfl (i * 3 + j) u (by rw [qc_get qs i hi' j hj]; exact hu)
      rw [add_plain] at this
      rw [← this]
      congr 2
      omega
    rw [List.getElem_map]
    refine ⟨qs[i].2.1, qs[i].1.bytes.length, qs[i].2.2, ?_, ?_, ?_, rfl, (h.2 qs[i] (List.getElem_mem hi')).1⟩
    · exact hc 0 (by decide) _ rfl
    · exact hc 1 (by decide) _ rfl
    · exact hc 2 (by decide) _ rfl
/-- a type of signatures -/
def SgT (t e : TypeId) : Prop := Tryz.prog.underlying t = some (.slice e) ∧ ∃ i z, Tryz.prog.info? e = some i ∧ i.zero = some z ∧ i.size = 3 ∧ i.bytes = 48 ∧ z.cells.size = 3
theorem sgT_of {t e : TypeId} (ht : Tryz.prog.underlying t = some (.slice e)) (h : (Tryz.prog.info? e).map (fun i => (i.zero.map (fun z => z.cells.size), i.size, i.bytes)) = some (some 3, 3, 48)) : SgT t e := by
  refine ⟨ht, ?_⟩
  cases hi : Tryz.prog.info? e with
  | none => rw [hi] at h; simp at h
  | some i =>
    rw [hi] at h
    simp only [Option.map_some, Option.some.injEq, Prod.mk.injEq] at h
    obtain ⟨h1, h2, h3⟩ := h
    cases hz : i.zero with
    | none => rw [hz] at h1; simp at h1
    | some z => rw [hz] at h1; simp only [Option.map_some, Option.some.injEq] at h1; exact ⟨i, z, rfl, hz, h2, h3, h1⟩
theorem sgT1 : SgT 76 109 := sgT_of Tryz.underlying76 (by kernel_rfl)
theorem run_app_sg {w : World} {B : Nat} {t e ty : TypeId} (hT : SgT t e) {v : Value} {qs : List (Sg × Option Addr × Nat)} (hown : OwnG w B e v qs) (q : Sg × Option Addr × Nat) (ad : Addr) (c : Nat) (hu : ∀ j u, (qc q)[j]? = some u → w.cell? (ad.add j) = some u)
    (hq : Sl w (qv q) q.1.bytes) (hqb : ∀ b, (qv q).ownBlock = some b → b < w.heap.size ∧ v.ownBlock ≠ some b) (hn : qs.length < 1099511627776) (hB : B ≤ w.heap.size) :
    ∃ v' w', (Builtin.append_ #[t, t] ty #[v, .slice (some ad) 1 c]).run Tryz.prog w = .ok v' w' ∧ OwnG w' B e v' (qs ++ [q]) ∧ Below B w w' ∧ w.grownBy w' v.ownBlock := by
  obtain ⟨ht, i, z, hi, hz, hsize, hby, hzs⟩ := hT
  obtain ⟨hrow, hall⟩ := hown
  have h63 : qs.length + 1 ≤ maxLen := by unfold maxLen; omega
  have hul : (qc q).length = 3 := rfl
  obtain ⟨v', w', hr, ho, hg, hiff⟩ := run_append_own (P := Tryz.prog) w B t ty e i z 3 48 ht hi hz hsize hby hzs (by decide) v qs.length (qs.flatMap qc) hrow ad 1 c (qc q) (by rw [hul]) hu (qc_one q) h63 (by omega) hB
  have hv : ∀ g, v'.ownBlock = some g → v.ownBlock = some g ∨ w.heap.size ≤ g := by
    rcases hrow.2 with ⟨rfl, hn0⟩ | ⟨g, cap, cur, rfl, hbg, hgg, hnc, hcm, hcs, htake⟩
    · have h2 := run_append_nil (P := Tryz.prog) w t ty e i z ht hi hz ad 1 c (qc q) (by rw [hsize, hul]) hu (by decide) (by decide) (by rw [hby]; decide)
      rw [h2] at hr
      injection hr with hv hw
      subst hw hv
      intro g hg
      injection hg with hg
      exact .inr (Nat.le_of_eq hg)
    · by_cases hroom : qs.length + 1 ≤ cap
      · have h2 := run_append_room (P := Tryz.prog) w t ty e i ht hi g qs.length cap cur hgg ad 1 c (qc q) (by rw [hsize, hul]) hu (qc_one q) hroom (by rw [hsize, hcs, hul]; omega)
        rw [h2] at hr
        injection hr with hv hw
        subst hw hv
        exact fun g hg => .inl hg
      · have holds : ∀ j x, (qs.flatMap qc)[j]? = some x → w.cell? ((⟨g, 0, none⟩ : Addr).add j) = some x := World.ownsRow.cells hrow (g := g) rfl
        have h2 := run_append_grow (P := Tryz.prog) w t ty e i z ht hi hz ⟨g, 0, none⟩ qs.length cap (qs.flatMap qc) (by rw [hsize]; exact hrow.1) holds ad 1 c (qc q) (by rw [hsize, hul]) hu (by omega) (by omega) (growslice_fits (by omega) (by rw [hby]; omega))
        rw [h2] at hr
        injection hr with hv hw
        subst hw hv
        intro g hg
        injection hg with hg
        exact .inr (Nat.le_of_eq hg)
  refine ⟨v', w', hr, ⟨?_, ?_⟩, (Below.refl B w).grown hg hB (fun k hk => (World.ownsRow.lt hrow k hk).1), hg⟩
  · rw [List.length_append, List.flatMap_append]
    simpa using ho
  · intro x hx
    have hx' : Sl w (qv x) x.1.bytes ∧ ∀ b, (qv x).ownBlock = some b → b < w.heap.size ∧ v.ownBlock ≠ some b := by
      rcases List.mem_append.1 hx with hx | hx
      · exact hall x hx
      · obtain rfl := List.mem_singleton.1 hx
        exact ⟨hq, hqb⟩
    refine ⟨hx'.1.by7 hg (fun r hr hb => (hx'.2 r hb).2 hr), fun b hb => ⟨Nat.lt_of_lt_of_le (hx'.2 b hb).1 hg.size, fun hb' => ?_⟩⟩
    rcases hv b hb' with h | h
    · exact (hx'.2 b hb).2 h
    · have := (hx'.2 b hb).1
      omega
theorem wpList_appG {ops : Array Oper} {rest : List Oper} {o : Oper} {a : Act} {w : World} {Q : Exit → Act → World → Prop} {t e : TypeId} (hT : SgT t e) (hgd : o.guard = none) (s x : Operand)
    (ho : o.op = .call { callee := .builtin .append, args := #[s, x], argTypes := #[t, t] }) (B : Nat) (v : Value) (qs : List (Sg × Option Addr × Nat)) (q : Sg × Option Addr × Nat) (hs : a.eval s = v) (hown : OwnG w B e v qs)
    (ad : Addr) (c : Nat) (hx : a.eval x = .slice (some ad) 1 c) (hu : ∀ j u, (qc q)[j]? = some u → w.cell? (ad.add j) = some u)
    (hq : Sl w (qv q) q.1.bytes) (hqb : ∀ b, (qv q).ownBlock = some b → b < w.heap.size ∧ v.ownBlock ≠ some b) (hn : qs.length < 1099511627776) (hB : B ≤ w.heap.size)
    (h : ∀ v' w', OwnG w' B e v' (qs ++ [q]) → Below B w w' → wpList Tryz.prog ops Q rest (a.put o.dst v') w') : wpList Tryz.prog ops Q (o :: rest) a w := by
  refine wpList_plain hgd fun K hK => ?_
  obtain ⟨v', w', hr, h2, h3, _⟩ := run_app_sg (ty := o.type) hT hown q ad c hu hq hqb hn hB
  unfold Oper.wp execOp
  simp only [ho, resolve, invoke, builtin, Sem.run_bind, Sem.run_pure, Result.andThen_ok, List.map_toArray, List.map_cons, List.map_nil, hs, hx, hr]
  exact hK _ _ (h v' w' h2 h3)
theorem wp_appG {o : Oper} {a : Act} {w : World} {K : Act → World → Prop} {Q : Exit → Act → World → Prop} {t e : TypeId} (hT : SgT t e) (s x : Operand)
    (ho : o.op = .call { callee := .builtin .append, args := #[s, x], argTypes := #[t, t] }) (B : Nat) (v : Value) (qs : List (Sg × Option Addr × Nat)) (q : Sg × Option Addr × Nat) (hs : a.eval s = v) (hown : OwnG w B e v qs)
    (ad : Addr) (c : Nat) (hx : a.eval x = .slice (some ad) 1 c) (hu : ∀ j u, (qc q)[j]? = some u → w.cell? (ad.add j) = some u)
    (hq : Sl w (qv q) q.1.bytes) (hqb : ∀ b, (qv q).ownBlock = some b → b < w.heap.size ∧ v.ownBlock ≠ some b) (hn : qs.length < 1099511627776) (hB : B ≤ w.heap.size)
    (h : ∀ v' w', OwnG w' B e v' (qs ++ [q]) → Below B w w' → K (a.put o.dst v') w') : Oper.wp Tryz.prog o a w K Q := by
  obtain ⟨v', w', hr, h2, h3, _⟩ := run_app_sg (ty := o.type) hT hown q ad c hu hq hqb hn hB
  unfold Oper.wp execOp
  simp only [ho, resolve, invoke, builtin, Sem.run_bind, Sem.run_pure, Result.andThen_ok, List.map_toArray, List.map_cons, List.map_nil, hs, hx, hr]
  exact h v' w' h2 h3
theorem wpList_appG2 {ops : Array Oper} {rest : List Oper} {o : Oper} {a : Act} {w : World} {Q : Exit → Act → World → Prop} {t e : TypeId} (hT : SgT t e) (hgd : o.guard = none) (s x : Operand)
    (ho : o.op = .call { callee := .builtin .append, args := #[s, x], argTypes := #[t, t] }) (B : Nat) (v : Value) (qs : List (Sg × Option Addr × Nat)) (q : Sg × Option Addr × Nat) (hs : a.eval s = v) (hown : OwnG w B e v qs)
    (ad : Addr) (c : Nat) (hx : a.eval x = .slice (some ad) 1 c) (hu : ∀ j u, (qc q)[j]? = some u → w.cell? (ad.add j) = some u)
    (hq : Sl w (qv q) q.1.bytes) (hqb : ∀ b, (qv q).ownBlock = some b → b < w.heap.size ∧ v.ownBlock ≠ some b) (hn : qs.length < 1099511627776) (hB : B ≤ w.heap.size)
    (h : ∀ v' w', OwnG w' B e v' (qs ++ [q]) → Below B w w' → w.grownBy w' v.ownBlock → wpList Tryz.prog ops Q rest (a.put o.dst v') w') : wpList Tryz.prog ops Q (o :: rest) a w := by
  refine wpList_plain hgd fun K hK => ?_
  obtain ⟨v', w', hr, h2, h3, h4⟩ := run_app_sg (ty := o.type) hT hown q ad c hu hq hqb hn hB
  unfold Oper.wp execOp
  simp only [ho, resolve, invoke, builtin, Sem.run_bind, Sem.run_pure, Result.andThen_ok, List.map_toArray, List.map_cons, List.map_nil, hs, hx, hr]
  exact hK _ _ (h v' w' h2 h3 h4)
theorem wp_appG2 {o : Oper} {a : Act} {w : World} {K : Act → World → Prop} {Q : Exit → Act → World → Prop} {t e : TypeId} (hT : SgT t e) (s x : Operand)
    (ho : o.op = .call { callee := .builtin .append, args := #[s, x], argTypes := #[t, t] }) (B : Nat) (v : Value) (qs : List (Sg × Option Addr × Nat)) (q : Sg × Option Addr × Nat) (hs : a.eval s = v) (hown : OwnG w B e v qs)
    (ad : Addr) (c : Nat) (hx : a.eval x = .slice (some ad) 1 c) (hu : ∀ j u, (qc q)[j]? = some u → w.cell? (ad.add j) = some u)
    (hq : Sl w (qv q) q.1.bytes) (hqb : ∀ b, (qv q).ownBlock = some b → b < w.heap.size ∧ v.ownBlock ≠ some b) (hn : qs.length < 1099511627776) (hB : B ≤ w.heap.size)
    (h : ∀ v' w', OwnG w' B e v' (qs ++ [q]) → Below B w w' → w.grownBy w' v.ownBlock → K (a.put o.dst v') w') : Oper.wp Tryz.prog o a w K Q := by
  obtain ⟨v', w', hr, h2, h3, h4⟩ := run_app_sg (ty := o.type) hT hown q ad c hu hq hqb hn hB
  unfold Oper.wp execOp
  simp only [ho, resolve, invoke, builtin, Sem.run_bind, Sem.run_pure, Result.andThen_ok, List.map_toArray, List.map_cons, List.map_nil, hs, hx, hr]
  exact h v' w' h2 h3 h4
/-- make([]Signature, 0, n) -/
theorem wpList_mkG {ops : Array Oper} {rest : List Oper} {o : Oper} {a : Act} {w : World} {Q : Exit → Act → World → Prop} (hg : o.guard = none) (l c : Operand) (hop : o.op = Op.makeSlice 76 l c)
    (kl kc : IntKind) (C : Int) (n : Nat) (hl : a.eval l = .int kl 0) (hc : a.eval c = .int kc C) (hC : C = (n : Int)) (hn : n ≤ 1099511627776)
    (hK : ∀ w', OwnG w' w.heap.size 109 (.slice (some ⟨w.heap.size, 0, none⟩) 0 n) [] → Up w w' → wpList Tryz.prog ops Q rest (a.put o.dst (.slice (some ⟨w.heap.size, 0, none⟩) 0 n)) w') : wpList Tryz.prog ops Q (o :: rest) a w := by
  obtain ⟨ht, i, z, hi, hz, hsize, hby, hzs⟩ := sgT1
  refine wpList_make_own w hg l c 76 hop w.heap.size 109 i z 3 ht hi hz hsize kl kc C n hl hc hC (by rw [hby]; omega) (by unfold maxLen; omega) (Nat.le_refl _) ?_
  intro w' h1 h2
  exact hK w' ⟨h1, by simp⟩ ((Below.refl _ w).grown h2 (Nat.le_refl _) (fun k hk => by cases hk))
end Go.Proofs.YtaobnnlcfefodaaGreatDoor
