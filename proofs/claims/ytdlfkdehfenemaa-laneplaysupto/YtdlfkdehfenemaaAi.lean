import Derived.Test.YtdlfkdehfenemaaAh
namespace Go.Proofs.Ytdlfkdehfenemaa
open Go.RowKit Go.Conc TextNum
theorem run_append_frsN {P : Program} (w : World) (base : Nat) (t ty e : TypeId) (i : TypeInfo) (z : Value) (size bytes : Nat) (ht : P.underlying t = some (.slice e)) (hi : P.info? e = some i) (hz : i.zero = some z)
    (hsize : i.size = size) (hby : i.bytes = bytes) (hzs : z.cells.size = size) (h0 : 0 < size) (v : Value) (n : Nat) (xs : List Value) (hown : w.ownsRow base e size v n xs)
    (a : Addr) (m c : Nat) (news : List Value) (hl : news.length = m * size) (hnews : ∀ j u, news[j]? = some u → w.cell? (a.add j) = some u) (h1 : ∀ u ∈ news, u.oneCell' = true)
    (h63 : n + m ≤ maxLen) (hbytes : (n + m) * bytes ≤ 140737488355328) (hbase : base ≤ w.heap.size) :
    ∃ v' w', (Builtin.append_ #[t, t] ty #[v, .slice (some a) m c]).run P w = .ok v' w' ∧ w'.ownsRow base e size v' (n + m) (xs ++ news) ∧ w.grownBy w' v.ownBlock ∧ Frs w v v' := by
  obtain ⟨v', w', hr, h2, h3, h4⟩ := run_append_own (P := P) w base t ty e i z size bytes ht hi hz hsize hby hzs h0 v n xs hown a m c news hl hnews h1 h63 hbytes hbase
  refine ⟨v', w', hr, h2, h3, ?_⟩
  rcases hown.2 with ⟨rfl, rfl⟩ | ⟨g, cap, cur, rfl, hbg, hg, hnc, hcm, hcs, htake⟩
  · obtain ⟨v2, w2, hr2, h22, _, _⟩ := run_append_own (P := P) w w.heap.size t ty e i z size bytes ht hi hz hsize hby hzs h0 (.slice none 0 0) 0 [] (World.ownsRow_nil w _ _ _) a m c news hl hnews h1 h63 hbytes (Nat.le_refl _)
    rw [hr] at hr2
    injection hr2 with e1 e2
    subst e1 e2
    exact fun k hk => .inr (h22.lt k hk).1
  · by_cases hroom : n + m ≤ cap
    · have hr2 := run_append_room (P := P) w t ty e i ht hi g n cap cur hg a m c news (by rw [hsize]; exact hl) hnews h1 hroom (by rw [hsize, hcs, hl, ← Nat.add_mul]; exact Nat.mul_le_mul_right _ hroom)
      rw [hr] at hr2
      injection hr2 with e1 e2
      subst e1
      exact Frs.same rfl
    · have hr2 := run_append_grow (P := P) w t ty e i z ht hi hz ⟨g, 0, none⟩ n cap xs (by rw [hsize]; exact hown.1) (hown.cells (g := g) rfl) a m c news (by rw [hsize]; exact hl) hnews (by omega) (by simp only [maxLen] at h63; omega) (by rw [hby]; exact growslice_fits (by omega) hbytes)
      rw [hr] at hr2
      injection hr2 with e1 e2
      subst e1
      exact Frs.new (Nat.le_refl _)
theorem infoParcel : (Try.prog.info? 137).map (fun i => (i.zero, i.size, i.bytes)) = some (some (.agg #[.int .i64 0, nilS]), 2, 32) := by kernel_rfl
theorem due_app (pd : List PC) (p : PC) (x : Nat) : due (pd ++ [p]) x = if x = p.t then due pd x ++ [p] else due pd x := by
  unfold due
  rw [List.filter_append]
  by_cases h : x = p.t
  · subst h
    rw [if_pos rfl]
    simp
  · rw [if_neg h]
    have : (p.t == x) = false := by simp; omega
    simp [this]
/-- one more message is on its way -/
abbrev wPd (S : NS) (p : PC) (v' : Value) : NS := { S with pd := S.pd ++ [p], rows := fun x => if x = p.t then v' else S.rows x, mn := S.mn + 1 }
theorem msgs_pd {S : NS} {p : PC} {v' : Value} {m : Msg} (h : m ∈ msgs (wPd S p v')) : m = p.m ∨ m ∈ msgs S := by
  unfold msgs at h ⊢
  rcases List.mem_append.1 h with h | h
  · exact .inr (List.mem_append.2 (.inl h))
  · simp only [List.map_append, List.map_cons, List.map_nil, List.mem_append, List.mem_singleton] at h
    rcases h with h | h
    · exact .inr (List.mem_append.2 (.inr h))
    · exact .inl h
theorem NOk.posted {w w' : World} {S : NS} (h : NOk w S) (p : PC) (v' : Value) (hmm : MM w' S.mb (S.mn + 1) (fun x => if x = p.t then v' else S.rows x))
    (hrow : w'.ownsRow 0 137 2 v' ((due S.pd p.t).length + 1) ((due S.pd p.t).flatMap pc ++ pc p)) (hfrs : Frs w (S.rows p.t) v')
    (hf : Fr (fun k => k = S.mb ∨ (S.rows p.t).ownBlock = some k) w w') (hm : Ow w 0 p.m.v p.m.d) : NOk w' (wPd S p v') := by
  obtain ⟨es, cl, hmap⟩ := h.mm.map
  have tm : otag w S.mb = some 1001 := by simp only [otag, hmap]
  have no : ∀ k t, otag w k = some t → t ≠ 1001 → t ≠ 137 → ¬ (k = S.mb ∨ (S.rows p.t).ownBlock = some k) := by
    intro k t ht h1 h2 hk
    rcases hk with rfl | hk
    · rw [tm] at ht; exact h1 (Option.some.inj ht).symm
    · rw [row_tag (h.prs _) hk] at ht; exact h2 (Option.some.inj ht).symm
  have hdis : ∀ x g, x ≠ p.t → (S.rows x).ownBlock = some g → v'.ownBlock ≠ some g := by
    intro x g hx hg hv
    rcases hfrs g hv with h1 | h1
    · exact h.dis x p.t g hx hg h1
    · have := ((h.prs x).lt g hg).2
      omega
  refine ⟨hf.at h.net (no _ _ h.net.tag (by decide) (by decide)), hf.at h.row (no _ _ h.row.tag (by decide) (by decide)), fun l hl => ?_, h.cnd, hmm, fun x => ?_, fun x y g hne hx => ?_, ?_, fun m hm2 => ?_⟩
  · have hx := h.chs l hl
    exact (hf.block _ (lt_of_at hx) (no _ 1000 (by simp only [otag, hx, chn]) (by decide) (by decide))).trans hx
  · show w'.ownsRow 0 137 2 (if x = p.t then v' else S.rows x) (due (S.pd ++ [p]) x).length ((due (S.pd ++ [p]) x).flatMap pc)
    rw [due_app]
    by_cases hx : x = p.t
    · subst hx
      rw [if_pos rfl, if_pos rfl]
      simpa using hrow
    · rw [if_neg hx, if_neg hx]
      refine hf.own (h.prs x) (fun g hg hk => ?_)
      rcases hk with rfl | hk
      · rw [row_tag (h.prs x) hg] at tm; cases tm
      · exact h.dis x p.t g hx hg hk
  · show (if y = p.t then v' else S.rows y).ownBlock ≠ some g
    have hx' : (if x = p.t then v' else S.rows x).ownBlock = some g := hx
    by_cases h1 : x = p.t
    · rw [if_pos h1] at hx'
      by_cases h2 : y = p.t
      · omega
      · rw [if_neg h2]
        intro hy
        exact hdis y g h2 hy hx'
    · rw [if_neg h1] at hx'
      by_cases h2 : y = p.t
      · rw [if_pos h2]
        exact hdis x g h1 hx'
      · rw [if_neg h2]
        exact h.dis x y g hne hx'
  · exact hf.fts h.fts (fun g hg => no g _ (h.fts.tag hg) (by decide) (by decide))
  · rcases msgs_pd hm2 with rfl | hm2
    · exact hf.own hm (fun g hg => no g _ (row_tag hm hg) (by decide) (by decide))
    · exact hf.own (h.ms m hm2) (fun g hg => no g _ (row_tag (h.ms m hm2) hg) (by decide) (by decide))
end Go.Proofs.Ytdlfkdehfenemaa
