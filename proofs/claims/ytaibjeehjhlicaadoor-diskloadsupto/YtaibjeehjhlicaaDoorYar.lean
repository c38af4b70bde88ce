import Derived.Test.YtaibjeehjhlicaaDoorYaq
namespace Go.Proofs.YtaibjeehjhlicaaDoor
open Go.RowKit Go.Shelf TextNum ModNum
/-- a named file is another now -/
def rpl (nf : List (List UInt8 × FL)) (b : Nat) (f' : FL) : List (List UInt8 × FL) := nf.map fun p => if p.2.b = b then (p.1, f') else p
theorem rpl_keys (nf : List (List UInt8 × FL)) (b : Nat) (f' : FL) : (rpl nf b f').map (·.1) = nf.map (·.1) := by
  unfold rpl
  rw [List.map_map]
  apply List.map_congr_left
  intro p _
  simp only [Function.comp]
  split <;> rfl
theorem rpl_none {nf : List (List UInt8 × FL)} {b : Nat} {f' : FL} (h : ∀ p ∈ nf, p.2.b ≠ b) : rpl nf b f' = nf := by
  unfold rpl
  rw [List.map_congr_left (g := id) (fun p hp => by rw [if_neg (h p hp)]; rfl), List.map_id]
theorem rpl_split {xs ys : List (List UInt8 × FL)} {l : List UInt8} {f f' : FL} (hx : ∀ p ∈ xs, p.2.b ≠ f.b) (hy : ∀ p ∈ ys, p.2.b ≠ f.b) : rpl (xs ++ (l, f) :: ys) f.b f' = xs ++ (l, f') :: ys := by
  have h1 := rpl_none (f' := f') hx
  have h2 := rpl_none (f' := f') hy
  unfold rpl at h1 h2 ⊢
  rw [List.map_append, List.map_cons, h1, h2, if_pos rfl]
def flS (s : DD) (b : Nat) (f' : FL) (t : Nat) : DD := { s with nf := rpl s.nf b f', trn := t }
theorem DOk.split {w : World} {B D T : Nat} {s : DD} (h : DOk w B D T s) {l : List UInt8} {f : FL} (hf : (l, f) ∈ s.nf) : ∃ xs ys, s.nf = xs ++ (l, f) :: ys ∧ (∀ g ∈ xs.map (·.2) ++ ys.map (·.2) ++ s.of, g.b ≠ f.b) ∧ ∀ f', rpl s.nf f.b f' = xs ++ (l, f') :: ys := by
  obtain ⟨xs, ys, e⟩ := List.append_of_mem hf
  have hnd := h.fnd
  have P : (fls s).Perm (f :: (xs.map (·.2) ++ ys.map (·.2) ++ s.of)) := by
    unfold fls
    rw [e, List.map_append, List.map_cons, List.append_assoc, List.cons_append, List.append_assoc]
    exact List.perm_middle
  have h2 := ((P.map (·.b)).nodup_iff.1 hnd)
  rw [List.map_cons, List.nodup_cons] at h2
  have h3 : ∀ g ∈ xs.map (·.2) ++ ys.map (·.2) ++ s.of, g.b ≠ f.b := fun g hg e => h2.1 (List.mem_map.2 ⟨g, hg, e⟩)
  refine ⟨xs, ys, e, h3, fun f' => ?_⟩
  rw [e]
  exact rpl_split (fun p hp => h3 p.2 (List.mem_append_left _ (List.mem_append_left _ (List.mem_map.2 ⟨p, hp, rfl⟩)))) (fun p hp => h3 p.2 (List.mem_append_left _ (List.mem_append_right _ (List.mem_map.2 ⟨p, hp, rfl⟩))))
/-- behind an act on one file -/
theorem DOk.filed {w w' : World} {B D T : Nat} {s : DD} (h : DOk w B D T s) {l : List UInt8} {f f' : FL} (hf : (l, f) ∈ s.nf) (t : Nat) {S : Nat → Prop} (k : Fr S w w') (hS0 : ∀ b, S b → b = D ∨ (b ∈ fbs f ∧ B ≤ b)) (hF : FOk w' B f') (hx : Fnx w f f')
    (hd : At w' D 58 (dcl (flS s f.b f' t))) (hsz : f'.nb.length ≤ 1099511627776 ∧ f'.lb.length ≤ 1099511627776 ∧ f'.lo.length ≤ T + 1) (ht : t ≤ T + 1) (hl : lsd (fls (flS s f.b f' t)) ≤ T + 1) (hu : usd (rpl s.nf f.b f') ≤ 1099511627776) (hT : T + 1 ≤ 100000) :
    DOk w' B D (T + 1) (flS s f.b f' t) ∧ Nw w.heap.size D s (flS s f.b f' t) := by
  obtain ⟨xs, ys, e, ho, hr⟩ := h.split hf
  have hfo := h.fok f (mem_fls_nf hf)
  have P : ∀ g, (fls (flS s f.b g t)).Perm (g :: (xs.map (·.2) ++ ys.map (·.2) ++ s.of)) := fun g => by
    show ((rpl s.nf f.b g).map (·.2) ++ s.of).Perm _
    rw [hr g, List.map_append, List.map_cons, List.append_assoc, List.cons_append, List.append_assoc]
    exact List.perm_middle
  have P0 : (fls s).Perm (f :: (xs.map (·.2) ++ ys.map (·.2) ++ s.of)) := by
    unfold fls
    rw [e, List.map_append, List.map_cons, List.append_assoc, List.cons_append, List.append_assoc]
    exact List.perm_middle
  have hmem : ∀ g ∈ fls (flS s f.b f' t), g = f' ∨ (g ∈ fls s ∧ g.b ≠ f.b) := fun g hg => by
    rcases List.mem_cons.1 ((P f').mem_iff.1 hg) with h1 | h1
    · exact .inl h1
    · exact .inr ⟨P0.mem_iff.2 (List.mem_cons_of_mem _ h1), ho g h1⟩
  have tS : ∀ b, S b → ∃ e0 ∈ 58 :: ftags, tagOf w b = some e0 := fun b hb => by
    rcases hS0 b hb with rfl | ⟨hb, _⟩
    · exact ⟨_, List.mem_cons_self, h.disk.tg⟩
    · obtain ⟨e0, h1, h2⟩ := hfo.tg b hb
      exact ⟨e0, List.mem_cons_of_mem _ h1, h2⟩
  have tNo : ∀ b t0, tagOf w b = t0 → (∀ e0 ∈ 58 :: ftags, t0 ≠ some e0) → ¬ S b := fun b t0 hb hn hS => by
    obtain ⟨e0, h1, h2⟩ := tS b hS
    exact hn e0 h1 (hb.symm.trans h2)
  have hml : ¬ S 0 := fun hS => by
    have hl := h.low
    rcases hS0 _ hS with hS | ⟨_, hS⟩ <;> omega
  obtain ⟨n1, n2, n3, n4, n5, n6, n7, n8, n9, n10, n11⟩ := h.num
  refine ⟨⟨ml_fr h.ml k h.hB h.low.1 hml, h.low, Nat.le_trans h.hB k.size, hd, k.map h.mnow (tNo _ _ (map_tg h.mnow) (by decide)), ⟨fun x => ?_, ?_⟩, ?_, ?_, k.map h.mlas (tNo _ _ (map_tg h.mlas) (by decide)), h.isl, h.neq, k.own h.rowC (fun g hg => tNo _ _ (own_tg h.rowC hg) (by decide)), k.own h.rowL (fun g hg => tNo _ _ (own_tg h.rowL hg) (by decide)), fun c hc => (h.chk c hc).fr k (fun b hb hS => ?_), h.lap, ?_, ?_, ?_, ?_, ?_⟩, ?_⟩
  · show Maps.has s.dm (.string x) = true ↔ x ∈ (rpl s.nf f.b f').map (·.1)
    rw [rpl_keys]; exact h.isn.has x
  · intro p hp z
    have hp : p ∈ rpl s.nf f.b f' := hp
    unfold rpl at hp
    obtain ⟨q, hq, rfl⟩ := List.mem_map.1 hp
    by_cases hb : q.2.b = f.b
    · rw [if_pos hb]
      show s.dm.atKey (.string q.1) z = fd f'.b
      rw [hx.1, ← hb]; exact h.isn.val q hq z
    · rw [if_neg hb]; exact h.isn.val q hq z
  · show ((rpl s.nf f.b f').map (·.1)).Nodup
    rw [rpl_keys]; exact h.nd
  · intro p hp
    have hp : p ∈ rpl s.nf f.b f' := hp
    have : p.1 ∈ (rpl s.nf f.b f').map (·.1) := List.mem_map_of_mem hp
    rw [rpl_keys] at this
    obtain ⟨q, hq, e1⟩ := List.mem_map.1 this
    rw [← e1]; exact h.nms q hq
  · obtain ⟨e0, h1, h2⟩ := tS b hS
    obtain ⟨e1, h3, h4⟩ := (h.chk c hc).tg b hb
    obtain rfl := Option.some.inj (h2.symm.trans h4)
    exact (by decide : ∀ e ∈ 58 :: ftags, e ∉ [52, 9]) e0 h1 h3
  · intro g hg
    rcases hmem g hg with rfl | ⟨h1, h2⟩
    · exact hF
    · refine (h.fok g h1).fr k (fun b hb hS => ?_)
      rcases hS0 b hS with rfl | ⟨hS, _⟩
      · exact (h.fok g h1).out hb h.disk.tg (by decide)
      · exact h.apart g h1 f (mem_fls_nf hf) h2 b hb hS
  · refine ((P f').map (·.b)).nodup_iff.2 ?_
    have := (P0.map (·.b)).nodup_iff.1 h.fnd
    rw [List.map_cons] at this ⊢
    rw [hx.1]; exact this
  · have key : ∀ g ∈ fls s, g.b ≠ f.b → ∀ b ∈ fbs f', b ∉ fbs g := fun g hg hne b hb hb' => by
      rcases hx.2 b hb with h1 | h1
      · exact h.apart g hg f (mem_fls_nf hf) hne b hb' h1
      · have := (h.fok g hg).lt b hb'; omega
    intro g1 hg1 g2 hg2 hne b hb hb'
    rcases hmem g1 hg1 with rfl | ⟨h1, h2⟩
    · rcases hmem g2 hg2 with rfl | ⟨h3, h4⟩
      · exact hne rfl
      · exact key g2 h3 h4 b hb hb'
    · rcases hmem g2 hg2 with rfl | ⟨h3, h4⟩
      · exact key g1 h1 h2 b hb' hb
      · exact h.apart g1 h1 g2 h3 hne b hb hb'
  · intro g hg
    rcases hmem g hg with rfl | ⟨h1, _⟩
    · exact hsz
    · have := h.sz g h1; omega
  · show s.chs.length ≤ T + 1 ∧ s.of.length ≤ T + 1 ∧ t ≤ T + 1 ∧ s.acts ≤ T + 1 ∧ lsd (fls (flS s f.b f' t)) ≤ T + 1 ∧ s.nM ≤ s.n0 + (T + 1) ∧ s.nL ≤ s.n0 + (T + 1) ∧ T + 1 ≤ 100000 ∧ s.n0 ≤ 1000000 ∧ s.room ≤ 1099511627776 ∧ usd (rpl s.nf f.b f') ≤ 1099511627776
    omega
  · intro b hb
    rcases hb with hb | hb | hb | hb | hb | ⟨g, hg, hb⟩ | hb
    · exact .inl (.inl hb)
    · exact .inl (.inr (.inl hb))
    · exact .inl (.inr (.inr (.inl hb)))
    · exact .inl (.inr (.inr (.inr (.inl hb))))
    · exact .inl (.inr (.inr (.inr (.inr (.inl hb)))))
    · rcases hmem g hg with rfl | ⟨h1, _⟩
      · rcases hx.2 b hb with h1 | h1
        · exact .inl (.inr (.inr (.inr (.inr (.inr (.inl ⟨f, mem_fls_nf hf, h1⟩))))))
        · exact .inr h1
      · exact .inl (.inr (.inr (.inr (.inr (.inr (.inl ⟨g, h1, hb⟩))))))
    · exact .inl (.inr (.inr (.inr (.inr (.inr (.inr hb))))))
end Go.Proofs.YtaibjeehjhlicaaDoor
