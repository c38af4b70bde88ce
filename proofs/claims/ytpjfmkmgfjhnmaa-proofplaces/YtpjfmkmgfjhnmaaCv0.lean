import Derived.Test.YtpjfmkmgfjhnmaaRp
namespace Go.Proofs.Ytpjfmkmgfjhnmaa
open Go.RowKit Tlg
theorem app_blk {w : World} {base : Nat} {ty : TypeId} {v : Value} {n : Nat} {xs : List Value} (hown : w.ownsRow base 2 1 v n xs) (ad : Addr) (c : Nat) (us : List Value) (hul : us.length = 1) (hu : ∀ j u, us[j]? = some u → w.cell? (ad.add j) = some u) (h1 : ∀ u ∈ us, u.oneCell' = true)
    (hn : n < 1099511627776) (hbase : base ≤ w.heap.size) :
    ∃ v' w', (Builtin.append_ #[26, 26] ty #[v, .slice (some ad) 1 c]).run Try.prog w = .ok v' w' ∧ w'.ownsRow base 2 1 v' (n + 1) (xs ++ us) ∧ w.grownBy w' v.ownBlock ∧ (∀ g, v'.ownBlock = some g → v.ownBlock = some g ∨ w.heap.size ≤ g) := by
  obtain ⟨i, hi, hz, hsize, hby⟩ := info_parts Try.infoL
  have ht := Try.underlying26
  have h63 : n + 1 ≤ maxLen := by unfold maxLen; omega
  obtain ⟨v', w', hr, ho, hg, hiff⟩ := run_append_own (P := Try.prog) w base 26 ty 2 i _ 1 8 ht hi hz hsize hby rfl (by decide) v n xs hown ad 1 c us (by rw [hul]) hu h1 h63 (by omega) hbase
  refine ⟨v', w', hr, ho, hg, ?_⟩
  · rcases hown.2 with ⟨rfl, rfl⟩ | ⟨g, cap, cur, rfl, hbg, hgg, hnc, hcm, hcs, htake⟩
    · have h2 := run_append_nil (P := Try.prog) w 26 ty 2 i _ ht hi hz ad 1 c us (by rw [hsize, hul]) hu (by decide) (by decide) (by rw [hby]; decide)
      rw [h2] at hr
      injection hr with hv hw
      subst hw hv
      intro g hg
      right
      injection hg with hg
      exact Nat.le_of_eq hg
    · by_cases hroom : n + 1 ≤ cap
      · have h2 := run_append_room (P := Try.prog) w 26 ty 2 i ht hi g n cap cur hgg ad 1 c us (by rw [hsize, hul]) hu h1 hroom (by rw [hsize, hcs, hul]; omega)
        rw [h2] at hr
        injection hr with hv hw
        subst hw hv
        exact fun g hg => .inl hg
      · have holds : ∀ j x, xs[j]? = some x → w.cell? ((⟨g, 0, none⟩ : Addr).add j) = some x := hown.cells (g := g) rfl
        have h2 := run_append_grow (P := Try.prog) w 26 ty 2 i _ ht hi hz ⟨g, 0, none⟩ n cap xs (by rw [hsize]; exact hown.1) holds ad 1 c us (by rw [hsize, hul]) hu (by omega) (by omega) (growslice_fits (by omega) (by rw [hby]; omega))
        rw [h2] at hr
        injection hr with hv hw
        subst hw hv
        intro g hg
        right
        injection hg with hg
        exact Nat.le_of_eq hg
theorem OwnL.by {w w' : World} {B : Nat} {v : Value} {l : List Nat} {row : Option Nat} (h : OwnL w B v l) (g : w.grownBy w' row) (hne : ∀ b, row = some b → v.ownBlock ≠ some b) : OwnL w' B v l := by
  refine ⟨h.1, ?_⟩
  rcases h.2 with e | ⟨b, cap, cur, e, hbg, hg, r⟩
  · exact .inl e
  · refine .inr ⟨b, cap, cur, e, hbg, ?_, r⟩
    rw [g.block b (lt_of_at hg) (fun e2 => hne b e2.symm (by rw [e]; rfl))]
    exact hg
/-- two lists of numbers of one's own, apart -/
structure Tw (w : World) (B : Nat) (v u : Value) (P : List (Nat × Nat)) : Prop where
  f : OwnL w B v (P.map Prod.fst)
  t : OwnL w B u (P.map Prod.snd)
  ne : ∀ g, v.ownBlock = some g → u.ownBlock ≠ some g
/-- the first has one more -/
structure Th (w : World) (B : Nat) (v u : Value) (P : List (Nat × Nat)) (m : Nat) : Prop where
  f : OwnL w B v (P.map Prod.fst ++ [m])
  t : OwnL w B u (P.map Prod.snd)
  ne : ∀ g, v.ownBlock = some g → u.ownBlock ≠ some g
theorem tw_nil (w : World) (B : Nat) : Tw w B (.slice none 0 0) (.slice none 0 0) [] := ⟨ownL_nil w B, ownL_nil w B, fun g h => by cases h⟩
theorem Tw.up {w w' : World} {B : Nat} {v u : Value} {P : List (Nat × Nat)} (h : Tw w B v u P) (k : Up w w') : Tw w' B v u P := ⟨h.f.below k, h.t.below k, h.ne⟩
theorem Th.up {w w' : World} {B : Nat} {v u : Value} {P : List (Nat × Nat)} {m : Nat} (h : Th w B v u P m) (k : Up w w') : Th w' B v u P m := ⟨h.f.below k, h.t.below k, h.ne⟩
theorem wpList_sep {ops : Array Oper} {rest : List Oper} {o : Oper} {a : Act} {w : World} {t : TypeId} {Q : Exit → Act → World → Prop} (hgd : o.guard = none) (s x : Operand)
    (ho : o.op = .call { callee := .builtin .append, args := #[s, x], argTypes := #[26, 26] }) (B : Nat) (v u : Value) (l r : List Nat) (m : Nat) (hs : a.eval s = v) (hown : OwnL w B v l) (hoth : OwnL w B u r) (hne : ∀ g, v.ownBlock = some g → u.ownBlock ≠ some g)
    (c : Nat) (hx : a.eval x = .slice (some ⟨w.heap.size, 0, none⟩) 1 c) (hn : l.length < 1099511627776) (hB : B ≤ w.heap.size)
    (h : ∀ v' w', OwnL w' B v' (l ++ [m]) → OwnL w' B u r → (∀ g, v'.ownBlock = some g → u.ownBlock ≠ some g) → Below B w w' → wpList Try.prog ops Q rest (a.put o.dst v') w') : wpList Try.prog ops Q (o :: rest) a (w.alloc (.cells (ci [m]).toArray t)) := by
  have up1 := (Up.refl w).alloc (.cells (ci [m]).toArray t)
  have hown1 := OwnL.below hown up1
  have hoth1 := OwnL.below hoth up1
  refine wpList_plain hgd fun K hK => ?_
  obtain ⟨v', w', hr, h2, h3, h4⟩ := app_blk (ty := o.type) hown1 ⟨w.heap.size, 0, none⟩ c (ci [m]) rfl (cells_new w t (ci [m])) (ci_one [m]) hn (by simp; omega)
  unfold Oper.wp execOp
  simp only [ho, resolve, invoke, builtin, Sem.run_bind, Sem.run_pure, Result.andThen_ok, List.map_toArray, List.map_cons, List.map_nil, hs, hx, hr]
  refine hK _ _ (h v' w' ?_ (hoth1.by h3 (fun b hb => hne b hb)) ?_ (((Below.refl B w).alloc hB _).trans ((Below.refl B _).grown h3 (by simp; omega) (fun k hk => (World.ownsRow.lt hown k hk).1))))
  · unfold OwnL
    rw [List.length_append, ci_append]
    exact h2
  · intro g hg
    rcases h4 g hg with e | e
    · exact hne g e
    · intro e2
      have := (World.ownsRow.lt hoth g e2).2
      rw [alloc_size] at e
      omega
/-- a list of the list of lists -/
theorem LL.get {w : World} {B : Nat} {v : Value} {L : List (List Nat)} (h : LL w B v L) {j : Nat} (hj : j < L.length) : ∃ g cap a c, v = .slice (some ⟨g, 0, none⟩) L.length cap ∧ w.cell? ⟨g, j, none⟩ = some (.slice a L[j].length c) ∧ OwnL w B (.slice a L[j].length c) L[j] := by
  obtain ⟨vs, h1, h2⟩ := h
  obtain ⟨u, hu, ou⟩ := h2 j L[j] (List.getElem?_eq_getElem hj)
  rcases h1.2 with ⟨rfl, e⟩ | ⟨g, cap, cur, rfl, hbase, hb, q1, q2, q3, q4⟩
  · omega
  · obtain ⟨a, c, rfl⟩ := ou.len
    refine ⟨g, cap, a, c, rfl, ?_, ou⟩
    have := World.ownsRow.cells h1 (g := g) rfl j _ hu
    rwa [add_plain, Nat.zero_add] at this
end Go.Proofs.Ytpjfmkmgfjhnmaa
